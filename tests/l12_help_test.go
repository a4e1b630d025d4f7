package tests

import (
	"cmp"
	"fmt"
	"slices"
	"testing"

	"loop.example/g00224/impl"
)

func timeoutOf(node int) impl.ClusterStep {
	return impl.ClusterStep{Kind: impl.DoTimeout, Node: node}
}

func crashOf(node int) impl.ClusterStep {
	return impl.ClusterStep{Kind: impl.DoCrash, Node: node}
}

func deliver(k int) impl.ClusterStep {
	return impl.ClusterStep{Kind: impl.DoDeliver, K: k}
}

func lose(k int) impl.ClusterStep {
	return impl.ClusterStep{Kind: impl.DoLose, K: k}
}

func double(k int) impl.ClusterStep {
	return impl.ClusterStep{Kind: impl.DoDouble, K: k}
}

func proposeTo(node int, data string) impl.ClusterStep {
	return impl.ClusterStep{Kind: impl.DoPropose, Node: node, Data: data}
}

func send(node int, to int, many int) impl.ClusterStep {
	return impl.ClusterStep{Kind: impl.DoSend, Node: node, K: to, Many: many}
}

// newCluster is made without the program.
func newCluster(peers int) impl.Cluster {
	var c impl.Cluster
	for id := range peers {
		c.Nodes = append(c.Nodes, impl.RaftNode{Id: id, Peers: peers, Vote: -1})
	}
	return c
}

// clusterWith has new nodes beside those that are given, each in its place.
func clusterWith(peers int, nodes ...impl.RaftNode) impl.Cluster {
	c := newCluster(peers)
	for _, n := range nodes {
		c.Nodes[n.Id] = n
	}
	return c
}

func copiedMsg(m impl.RaftMsg) impl.RaftMsg {
	m.Entries = slices.Clone(m.Entries)
	return m
}

func copiedCluster(c impl.Cluster) impl.Cluster {
	var out impl.Cluster
	for _, n := range c.Nodes {
		out.Nodes = append(out.Nodes, copiedNode(n))
	}
	for _, m := range c.Net {
		out.Net = append(out.Net, copiedMsg(m))
	}
	out.Leads = slices.Clone(c.Leads)
	return out
}

// changedCluster is a cluster with one thing changed.
func changedCluster(c impl.Cluster, change func(c *impl.Cluster)) impl.Cluster {
	c = copiedCluster(c)
	change(&c)
	return c
}

// withNet is a cluster with these messages on their way.
func withNet(c impl.Cluster, l ...impl.RaftMsg) impl.Cluster {
	return changedCluster(c, func(c *impl.Cluster) { c.Net = l })
}

// withLeads is a cluster with so many Leads, of several terms and nodes.
func withLeads(c impl.Cluster, many int) impl.Cluster {
	return changedCluster(c, func(c *impl.Cluster) {
		c.Leads = nil
		for i := range many {
			c.Leads = append(c.Leads, impl.Lead{Term: 1 + i%1000, Node: i % len(c.Nodes)})
		}
	})
}

// netOf are so many messages that are good for two peers and more, no two neighbours alike.
func netOf(many int) []impl.RaftMsg {
	var l []impl.RaftMsg
	for i := range many {
		switch i % 4 {
		case 0:
			l = append(l, askMsg(1, 0, 1+i, i, 1))
		case 1:
			l = append(l, voteMsg(0, 1, 1+i, i%8 == 1))
		case 2:
			l = append(l, appendMsg(0, 1, 1+i, i%50, 1, i, logOf(1, 1+i)...))
		default:
			l = append(l, toldMsg(1, 0, 1+i, i, i%8 == 3))
		}
	}
	return l
}

func sameCluster(a impl.Cluster, b impl.Cluster) bool {
	return slices.EqualFunc(a.Nodes, b.Nodes, sameNode) && sameMsgs(a.Net, b.Net) && slices.Equal(a.Leads, b.Leads)
}

// What follows does by the document's words, without the program's functions, what a cluster does.

func isClusterByHand(c impl.Cluster) bool {
	peers := len(c.Nodes)
	if !isWithin(peers, 1, 7) || len(c.Net) > 60 || len(c.Leads) > 1000 {
		return false
	}
	for place, n := range c.Nodes {
		if !isNodeByHand(n) || n.Id != place || n.Peers != peers {
			return false
		}
	}
	for _, m := range c.Net {
		if !isMsgByHand(m, peers) {
			return false
		}
	}
	for _, x := range c.Leads {
		if !isWithin(x.Term, 1, 1000) || !isWithin(x.Node, 0, peers-1) {
			return false
		}
	}
	return true
}

// A deed is what a step does: who is another one behind it (-1: nobody), which message goes (-1: none) and which are told.
type deed struct {
	who   int
	after impl.RaftNode
	goes  int
	told  []impl.RaftMsg
}

func deedByHand(c impl.Cluster, s impl.ClusterStep) (deed, bool) {
	isNode := isWithin(s.Node, 0, len(c.Nodes)-1)
	isMsg := isWithin(s.K, 0, len(c.Net)-1)
	x, ok := deed{who: -1, goes: -1}, false
	switch {
	case s.Kind == 1 && isNode:
		x.who = s.Node
		x.after, x.told, ok = timeoutByHand(c.Nodes[s.Node])
	case s.Kind == 2 && isMsg:
		x.who, x.goes = c.Net[s.K].To, s.K
		x.after, x.told, ok = handleByHand(c.Nodes[x.who], c.Net[s.K])
	case s.Kind == 3 && isMsg:
		x.goes, ok = s.K, true
	case s.Kind == 4 && isMsg:
		x.told, ok = []impl.RaftMsg{copiedMsg(c.Net[s.K])}, len(c.Net) < 60
	case s.Kind == 5 && isNode:
		x.who = s.Node
		x.after, _, ok = proposeByHand(c.Nodes[s.Node], s.Data)
	case s.Kind == 6 && isNode:
		var m impl.RaftMsg
		m, ok = appendByHand(c.Nodes[s.Node], s.K, s.Many)
		x.told = []impl.RaftMsg{m}
	case s.Kind == 7 && isNode:
		x.who = s.Node
		x.after, ok = crashByHand(c.Nodes[s.Node])
	}
	return x, ok
}

func clusterStepByHand(c impl.Cluster, s impl.ClusterStep) (impl.Cluster, bool) {
	if !isClusterByHand(c) {
		return impl.Cluster{}, false
	}
	x, ok := deedByHand(c, s)
	if !ok {
		return impl.Cluster{}, false
	}
	out := impl.Cluster{Leads: slices.Clone(c.Leads)}
	for id, n := range c.Nodes {
		if id != x.who {
			out.Nodes = append(out.Nodes, copiedNode(n))
			continue
		}
		out.Nodes = append(out.Nodes, x.after)
		leads, led := x.after.Role == impl.RoleLeads, n.Role == impl.RoleLeads
		if leads && (!led || n.Term != x.after.Term) && len(c.Leads) < 1000 {
			out.Leads = append(out.Leads, impl.Lead{Term: x.after.Term, Node: id})
		}
	}
	for k, m := range c.Net {
		if k != x.goes {
			out.Net = append(out.Net, copiedMsg(m))
		}
	}
	for _, m := range x.told {
		if len(out.Net) < 60 {
			out.Net = append(out.Net, m)
		}
	}
	return out, true
}

func playByHand(peers int, l []impl.ClusterStep) (impl.Cluster, []bool, bool) {
	if !isWithin(peers, 1, 7) || len(l) > 200 {
		return impl.Cluster{}, nil, false
	}
	c := newCluster(peers)
	var did []bool
	for _, s := range l {
		next, ok := clusterStepByHand(c, s)
		did = append(did, ok)
		if ok {
			c = next
		}
	}
	return c, did, true
}

func leadersByHand(c impl.Cluster) ([]impl.Lead, bool) {
	if !isClusterByHand(c) {
		return nil, false
	}
	var l []impl.Lead
	for _, n := range c.Nodes {
		if n.Role == impl.RoleLeads {
			l = append(l, impl.Lead{Term: n.Term, Node: n.Id})
		}
	}
	slices.SortStableFunc(l, func(a impl.Lead, b impl.Lead) int { return cmp.Compare(a.Term, b.Term) })
	return l, true
}

func bothBeginWith(a []impl.Entry, b []impl.Entry) []impl.Entry {
	many := 0
	for many < len(a) && many < len(b) && a[many] == b[many] {
		many++
	}
	return a[:many]
}

// commonLogByHand takes any two; the shortest of what they begin with is what all do.
func commonLogByHand(c impl.Cluster) ([]impl.Entry, bool) {
	if !isClusterByHand(c) {
		return nil, false
	}
	common := c.Nodes[0].Log[:c.Nodes[0].Commit]
	for _, a := range c.Nodes {
		for _, b := range c.Nodes {
			if l := bothBeginWith(a.Log[:a.Commit], b.Log[:b.Commit]); len(l) < len(common) {
				common = l
			}
		}
	}
	return slices.Clone(common), true
}

func highestByHand(c impl.Cluster) (int, bool) {
	if !isClusterByHand(c) {
		return 0, false
	}
	var terms []int
	for _, n := range c.Nodes {
		terms = append(terms, n.Term)
	}
	return slices.Max(terms), true
}

// What follows asks the program.

func wantNothingBehindCluster(t *testing.T, what string, c impl.Cluster) {
	t.Helper()
	for _, n := range c.Nodes {
		wantNothingBehindNode(t, what, n)
	}
	for _, m := range c.Net {
		wantNothingBehind(t, what, m.Entries)
	}
	wantNothingBehind(t, what, c.Leads)
	for _, n := range whole(c.Nodes)[len(c.Nodes):] {
		if !sameNode(n, impl.RaftNode{}) {
			t.Errorf("%s: behind Nodes lies %s", what, shown(n))
		}
	}
	for _, m := range whole(c.Net)[len(c.Net):] {
		if !sameMsg(m, impl.RaftMsg{}) {
			t.Errorf("%s: behind Net lies %s", what, shown(m))
		}
	}
}

func wantCluster(t *testing.T, what string, got impl.Cluster, ok bool, want impl.Cluster) {
	t.Helper()
	if !ok || !sameCluster(got, want) {
		t.Errorf("%s: %v, %s", what, ok, unlike(got, want))
	}
	if ok && !impl.GoodCluster(got) {
		t.Errorf("%s: the cluster is not good: %s", what, shown(got))
	}
	wantNothingBehindCluster(t, what, got)
}

// unlike tells where two clusters differ.
func unlike(got impl.Cluster, want impl.Cluster) string {
	for i := range min(len(got.Nodes), len(want.Nodes)) {
		if !sameNode(got.Nodes[i], want.Nodes[i]) {
			return fmt.Sprintf("node %d is %s, want %s", i, shown(got.Nodes[i]), shown(want.Nodes[i]))
		}
	}
	for i := range min(len(got.Net), len(want.Net)) {
		if !sameMsg(got.Net[i], want.Net[i]) {
			return fmt.Sprintf("message %d is %s, want %s", i, shown(got.Net[i]), shown(want.Net[i]))
		}
	}
	if !slices.Equal(got.Leads, want.Leads) {
		return fmt.Sprintf("Leads are %s, want %s", shown(got.Leads), shown(want.Leads))
	}
	return fmt.Sprintf("%d nodes and %d messages, want %d and %d", len(got.Nodes), len(got.Net), len(want.Nodes), len(want.Net))
}

func wantNoCluster(t *testing.T, what string, got impl.Cluster, ok bool) {
	t.Helper()
	if ok || !sameCluster(got, impl.Cluster{}) {
		t.Errorf("%s: %s %v, want nothing", what, shown(got), ok)
	}
}

// checkClusterStep holds StepCluster against the document's words; it answers the cluster, as it was where StepCluster tells false.
func checkClusterStep(t *testing.T, what string, c impl.Cluster, s impl.ClusterStep) (impl.Cluster, bool) {
	t.Helper()
	want, is := clusterStepByHand(c, s)
	got, ok := impl.StepCluster(c, s)
	if !is {
		wantNoCluster(t, what+": StepCluster", got, ok)
		return c, false
	}
	wantCluster(t, what+": StepCluster", got, ok, want)
	return got, ok
}

// wantStepped asks for a step that is done, and for all that is there behind it.
func wantStepped(t *testing.T, what string, c impl.Cluster, s impl.ClusterStep, want impl.Cluster) {
	t.Helper()
	got, ok := impl.StepCluster(c, s)
	wantCluster(t, what, got, ok, want)
	checkClusterStep(t, what, c, s)
}

func wantNotStepped(t *testing.T, what string, c impl.Cluster, s impl.ClusterStep) {
	t.Helper()
	got, ok := impl.StepCluster(c, s)
	wantNoCluster(t, what, got, ok)
	checkClusterStep(t, what, c, s)
}

// stepped does steps that can all be done.
func stepped(t *testing.T, what string, c impl.Cluster, l ...impl.ClusterStep) impl.Cluster {
	t.Helper()
	for i, s := range l {
		next, ok := checkClusterStep(t, what, c, s)
		if !ok {
			t.Fatalf("%s: step %d, %v, can not be done", what, i, s)
		}
		c = next
	}
	return c
}

func checkGoodCluster(t *testing.T, what string, c impl.Cluster, good bool) {
	t.Helper()
	if isClusterByHand(c) != good {
		t.Errorf("%s: the test itself is wrong: %s", what, shown(c))
	}
	if impl.GoodCluster(c) != good {
		t.Errorf("%s: GoodCluster of %s: %v", what, shown(c), !good)
	}
}

func checkPlay(t *testing.T, what string, peers int, l []impl.ClusterStep) {
	t.Helper()
	want, does, is := playByHand(peers, l)
	got, did, ok := impl.PlayCluster(peers, l)
	if !slices.Equal(did, does) {
		t.Errorf("%s: PlayCluster: done are %v, want %v", what, did, does)
	}
	wantNothingBehind(t, what+": PlayCluster", did)
	if !is {
		wantNoCluster(t, what+": PlayCluster", got, ok)
		return
	}
	wantCluster(t, what+": PlayCluster", got, ok, want)
}

// checkAsked holds what may be asked of a cluster against the document's words.
func checkAsked(t *testing.T, what string, c impl.Cluster) {
	t.Helper()
	leaders, lead := leadersByHand(c)
	if got, ok := impl.LeadersOf(c); ok != lead || !slices.Equal(got, leaders) {
		t.Errorf("%s: LeadersOf: %v %v, want %v %v", what, got, ok, leaders, lead)
	} else {
		wantNothingBehind(t, what+": LeadersOf", got)
	}
	common, has := commonLogByHand(c)
	if got, ok := impl.CommonLog(c); ok != has || !slices.Equal(got, common) {
		t.Errorf("%s: CommonLog: %s %v, want %s %v", what, shown(got), ok, shown(common), has)
	} else {
		wantNothingBehind(t, what+": CommonLog", got)
	}
	term, is := highestByHand(c)
	if got, ok := impl.HighestTerm(c); got != term || ok != is {
		t.Errorf("%s: HighestTerm: %d %v, want %d %v", what, got, ok, term, is)
	}
}

// What follows is promise 12, asked of one cluster.

func wantAgreed(t *testing.T, what string, c impl.Cluster) {
	t.Helper()
	wantOneLeadATerm(t, what, c)
	wantWhoLeadsHasAll(t, what, c)
	for i, a := range c.Nodes {
		for _, b := range c.Nodes[:i] {
			wantLogsMatch(t, what, a, b)
			many := min(a.Commit, b.Commit)
			if !slices.Equal(a.Log[:many], b.Log[:many]) {
				t.Errorf("%s: state machine safety: %s and %s", what, shown(a), shown(b))
			}
		}
	}
}

// wantOneLeadATerm asks for election safety, and that whoever leads is among Leads.
func wantOneLeadATerm(t *testing.T, what string, c impl.Cluster) {
	t.Helper()
	by := map[int]int{}
	for _, x := range c.Leads {
		if who, led := by[x.Term]; led {
			t.Errorf("%s: election safety: %d and %d in term %d: %v", what, who, x.Node, x.Term, c.Leads)
		}
		by[x.Term] = x.Node
	}
	for _, n := range c.Nodes {
		if who, led := by[n.Term]; n.Role == impl.RoleLeads && (!led || who != n.Id) {
			t.Errorf("%s: %d leads in %d and is not among Leads %v", what, n.Id, n.Term, c.Leads)
		}
	}
}

func wantLogsMatch(t *testing.T, what string, a impl.RaftNode, b impl.RaftNode) {
	t.Helper()
	for at := min(len(a.Log), len(b.Log)) - 1; at >= 0; at-- {
		if a.Log[at].Term == b.Log[at].Term {
			if !slices.Equal(a.Log[:at+1], b.Log[:at+1]) {
				t.Errorf("%s: log matching up to %d: %s and %s", what, at+1, shown(a), shown(b))
			}
			return
		}
	}
}

// wantWhoLeadsHasAll asks for leader completeness of one who leads in a Term beyond which nobody led. (One who leads on in a lesser Term, after another led in a greater one, may lack what that one committed.)
func wantWhoLeadsHasAll(t *testing.T, what string, c impl.Cluster) {
	t.Helper()
	last := 0
	for _, x := range c.Leads {
		last = max(last, x.Term)
	}
	for _, n := range c.Nodes {
		if n.Role != impl.RoleLeads || n.Term < last {
			continue
		}
		for _, other := range c.Nodes {
			if other.Commit > len(n.Log) || !slices.Equal(n.Log[:other.Commit], other.Log[:other.Commit]) {
				t.Errorf("%s: leader completeness: %s leads without %s", what, shown(n), shown(other))
			}
		}
	}
}
