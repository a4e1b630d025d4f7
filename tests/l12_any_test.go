package tests

import (
	"fmt"
	"math"
	"reflect"
	"slices"
	"testing"

	"loop.example/g00224/impl"
)

func behindLead() impl.Lead {
	return impl.Lead{Term: 1, Node: 0}
}

// roomyCluster copies a cluster into lists with something behind their lengths that would do there.
func roomyCluster(c impl.Cluster) impl.Cluster {
	out := impl.Cluster{Leads: roomy(c.Leads, behindLead())}
	for _, n := range c.Nodes {
		out.Nodes = append(out.Nodes, roomyNode(n))
	}
	for _, m := range c.Net {
		out.Net = append(out.Net, roomyMsg(m))
	}
	out.Nodes = roomy(out.Nodes, leadingNode(0, 1, 1000, nil, 0, 0))
	out.Net = roomy(out.Net, voteMsg(0, 1, 1000, true))
	return out
}

func untouchedCluster(got impl.Cluster, c impl.Cluster) bool {
	made := roomyCluster(c)
	if !sameCluster(got, c) || !slices.Equal(whole(got.Leads), whole(made.Leads)) {
		return false
	}
	for id, n := range c.Nodes {
		if !untouchedNode(got.Nodes[id], n) {
			return false
		}
	}
	for k, m := range c.Net {
		if !untouchedMsg(got.Net[k], m) {
			return false
		}
	}
	return slices.EqualFunc(whole(got.Nodes), whole(made.Nodes), sameNode) && sameMsgs(whole(got.Net), whole(made.Net))
}

// scribbleCluster writes over all of a cluster's memory.
func scribbleCluster(c impl.Cluster) {
	for _, n := range c.Nodes {
		scribbleNode(n)
	}
	scribbleMsgs(c.Net)
	fill(whole(c.Nodes), impl.RaftNode{Id: 77, Peers: 77})
	fill(whole(c.Leads), impl.Lead{Term: 77, Node: 77})
}

// A clusterMade is all that one call makes of a cluster: any of it may be empty.
type clusterMade struct {
	Cluster impl.Cluster
	Did     []bool
	Leads   []impl.Lead
	Entries []impl.Entry
	Number  int
	Ok      bool
}

func sameClusterMade(a clusterMade, b clusterMade) bool {
	return sameCluster(a.Cluster, b.Cluster) && slices.Equal(a.Did, b.Did) && slices.Equal(a.Leads, b.Leads) &&
		slices.Equal(a.Entries, b.Entries) && a.Number == b.Number && a.Ok == b.Ok
}

func (x clusterMade) scribble() {
	scribbleCluster(x.Cluster)
	fill(whole(x.Did), true)
	fill(whole(x.Leads), impl.Lead{Term: 77, Node: 77})
	fill(whole(x.Entries), impl.Entry{Term: 77, Data: "scribble"})
}

// A clusterCall calls the program, and does the same by the document's words.
type clusterCall struct {
	name   string
	call   func(c impl.Cluster) clusterMade
	byHand func(c impl.Cluster) clusterMade
}

func clusterCalls(c impl.Cluster) []clusterCall {
	stepped := func(c impl.Cluster, ok bool) clusterMade { return clusterMade{Cluster: c, Ok: ok} }
	leaders := func(l []impl.Lead, ok bool) clusterMade { return clusterMade{Leads: l, Ok: ok} }
	common := func(l []impl.Entry, ok bool) clusterMade { return clusterMade{Entries: l, Ok: ok} }
	highest := func(n int, ok bool) clusterMade { return clusterMade{Number: n, Ok: ok} }
	l := []clusterCall{
		{"GoodCluster", func(c impl.Cluster) clusterMade { return clusterMade{Ok: impl.GoodCluster(c)} }, func(c impl.Cluster) clusterMade { return clusterMade{Ok: isClusterByHand(c)} }},
		{"LeadersOf", func(c impl.Cluster) clusterMade { return leaders(impl.LeadersOf(c)) }, func(c impl.Cluster) clusterMade { return leaders(leadersByHand(c)) }},
		{"CommonLog", func(c impl.Cluster) clusterMade { return common(impl.CommonLog(c)) }, func(c impl.Cluster) clusterMade { return common(commonLogByHand(c)) }},
		{"HighestTerm", func(c impl.Cluster) clusterMade { return highest(impl.HighestTerm(c)) }, func(c impl.Cluster) clusterMade { return highest(highestByHand(c)) }},
	}
	for _, s := range fewSteps(c) {
		l = append(l, clusterCall{fmt.Sprint("StepCluster ", s.Kind, " ", s.Node, " ", s.K, " ", s.Many, " ", len(s.Data)),
			func(c impl.Cluster) clusterMade { return stepped(impl.StepCluster(c, s)) },
			func(c impl.Cluster) clusterMade { return stepped(clusterStepByHand(c, s)) }})
	}
	return l
}

// fewSteps are some steps of all kinds, most of which can be done.
func fewSteps(c impl.Cluster) []impl.ClusterStep {
	l := []impl.ClusterStep{{}, {Kind: 8}, {Kind: math.MinInt}, deliver(-1), deliver(len(c.Net)), timeoutOf(-1), timeoutOf(len(c.Nodes))}
	for id := range min(len(c.Nodes), 4) {
		l = append(l, timeoutOf(id), crashOf(id), proposeTo(id, "few"), proposeTo(id, sized(101)), send(id, (id+1)%len(c.Nodes), 60), send(id, 0, 1), send(id, 0, 0))
	}
	for k := range min(len(c.Net), 6) {
		l = append(l, deliver(k), lose(k), double(k))
	}
	if many := len(c.Net); many > 6 {
		l = append(l, deliver(many-1), lose(many-1), double(many-1))
	}
	return l
}

// allClusters are clusters, good and not.
func allClusters() map[string]impl.Cluster {
	l := badClusters()
	for name, c := range manyClusters() {
		l["good: "+name] = c
	}
	return l
}

// A span is memory of a list, up to its capacity.
type span struct {
	what     string
	from, to uintptr
}

// spansOf are all lists that a value has, also those inside others.
func spansOf(what string, v reflect.Value) []span {
	var l []span
	switch v.Kind() {
	case reflect.Struct:
		for i := range v.NumField() {
			l = append(l, spansOf(what+"."+v.Type().Field(i).Name, v.Field(i))...)
		}
	case reflect.Slice:
		if v.Cap() > 0 {
			l = append(l, span{what, v.Pointer(), v.Pointer() + uintptr(v.Cap())*v.Type().Elem().Size()})
		}
		for i := range v.Len() {
			l = append(l, spansOf(fmt.Sprint(what, "[", i, "]"), v.Index(i))...)
		}
	}
	return l
}

// wantApart asks that no two lists have memory in common.
func wantApart(t *testing.T, what string, l []span) {
	t.Helper()
	slices.SortFunc(l, func(a span, b span) int {
		if a.from < b.from {
			return -1
		}
		return 1
	})
	for i := 1; i < len(l); i++ {
		if l[i].from < l[i-1].to {
			t.Errorf("%s: %s and %s share memory", what, l[i-1].what, l[i].what)
		}
	}
}

// No two lists of an answer share memory, nor one of them with the argument.
func TestListsOfAClusterShareNothing(t *testing.T) {
	for name, c := range allClusters() {
		for _, x := range clusterCalls(c) {
			arg := roomyCluster(c)
			got := x.call(arg)
			wantApart(t, name+": "+x.name, append(spansOf("the argument", reflect.ValueOf(arg)), spansOf("the answer", reflect.ValueOf(got))...))
		}
	}
	for peers := 1; peers <= 7; peers++ {
		first, _ := impl.NewCluster(peers)
		second, _ := impl.NewCluster(peers)
		wantApart(t, "NewCluster", append(spansOf("first", reflect.ValueOf(first)), spansOf("second", reflect.ValueOf(second))...))
	}
}

// No cluster is written into, nothing behind its lists is read, and nothing of it is kept: what was answered stays when it is written over.
func TestNothingOfAClusterIsWrittenIntoOrKept(t *testing.T) {
	for name, c := range allClusters() {
		for _, x := range clusterCalls(c) {
			arg := roomyCluster(c)
			got := x.call(arg)
			if !untouchedCluster(arg, c) {
				t.Errorf("%s: %s writes into the cluster", name, x.name)
			}
			scribbleCluster(arg)
			if want := x.byHand(c); !sameClusterMade(got, want) {
				t.Errorf("%s: %s: %s, want %s", name, x.name, shown(got), shown(want))
			}
		}
	}
}

// What was answered may be written into: neither the cluster nor a later answer changes.
func TestWhatIsMadeOfAClusterMayBeWrittenInto(t *testing.T) {
	for name, c := range allClusters() {
		arg := copiedCluster(c)
		for _, x := range clusterCalls(c) {
			want := x.byHand(c)
			for range 2 {
				got := x.call(arg)
				if !sameClusterMade(got, want) {
					t.Errorf("%s: %s: %s, want %s", name, x.name, shown(got), shown(want))
				}
				wantNothingBehindCluster(t, name+": "+x.name, got.Cluster)
				got.scribble()
			}
			if !sameCluster(arg, c) {
				t.Fatalf("%s: the cluster is changed with what %s answered", name, x.name)
			}
		}
	}
	for range 2 {
		c, ok := impl.NewCluster(5)
		wantCluster(t, "NewCluster", c, ok, newCluster(5))
		scribbleCluster(c)
	}
}

// longPlay has steps of all kinds, those that can not be done among them.
func longPlay(seed int, peers int, many int) []impl.ClusterStep {
	d := dealingOf(seed)
	c := newCluster(peers)
	var l []impl.ClusterStep
	for len(l) < many {
		steps := anySteps(c)
		s := steps[d.below(len(steps))]
		if len(c.Net) > 0 && d.below(3) > 0 {
			s = deliver(d.below(len(c.Net)))
		}
		l = append(l, s)
		if next, ok := clusterStepByHand(c, s); ok {
			c = next
		}
	}
	return l
}

func TestNothingOfAPlayIsWrittenIntoOrKept(t *testing.T) {
	for peers := 0; peers <= 8; peers++ {
		for _, many := range []int{0, 1, 30, 200, 201} {
			l := longPlay(many, max(1, min(peers, 7)), many)
			arg := roomy(l, timeoutOf(0))
			kept := slices.Clone(whole(arg))
			c, did, ok := impl.PlayCluster(peers, arg)
			if !slices.Equal(whole(arg), kept) {
				t.Errorf("%d steps of %d are written into", many, peers)
			}
			fill(whole(arg), crashOf(0))
			want, does, is := playByHand(peers, l)
			what := fmt.Sprintf("%d steps of %d", many, peers)
			if ok != is || !sameCluster(c, want) || !slices.Equal(did, does) {
				t.Errorf("%s: %s", what, unlike(c, want))
			}
			made := clusterMade{Cluster: c, Did: did, Ok: ok}
			wantApart(t, what, spansOf("the answer", reflect.ValueOf(made)))
			made.scribble()
			checkPlay(t, what, peers, l)
		}
	}
}

// A message that is doubled, and what a node takes from a message, lie apart.
func TestEntriesThatAreDoubledShareNothing(t *testing.T) {
	c := withNet(newCluster(3), appendMsg(0, 1, 5, 0, 0, 2, logOf(1, 2, 5)...))
	twice, _ := impl.StepCluster(c, double(0))
	fill(whole(twice.Net[0].Entries), impl.Entry{Term: 1, Data: "scribble"})
	if !sameMsg(twice.Net[1], c.Net[0]) {
		t.Error("a message shares memory with the one it was doubled from")
	}
	twice, _ = impl.StepCluster(c, double(0))
	taken, _ := impl.StepCluster(twice, deliver(0))
	fill(whole(taken.Net[0].Entries), impl.Entry{Term: 1, Data: "scribble"})
	if !slices.Equal(taken.Nodes[1].Log, logOf(1, 2, 5)) {
		t.Error("a log shares memory with a message")
	}
}

// Several clusters, and several nodes and messages of one, may lie in one memory: each is read as its own.
func TestClustersThatLieInEachOther(t *testing.T) {
	log := entriesOf(60, 3, 2)
	numbers := []int{3, 0, 3, 0, 3}
	keptLog, keptNumbers := slices.Clone(log), slices.Clone(numbers)
	c := clusterWith(3, leadingNode(0, 3, 3, log[:3], 1, numbers[:3]...), followingNode(1, 3, 3, -1, log[:2], 1), leadingNode(2, 3, 3, log[:3], 0, numbers[2:5]...))
	c.Net = []impl.RaftMsg{appendMsg(0, 1, 3, 2, 3, 1, log[2:5]...), appendMsg(2, 1, 3, 1, 3, 1, log[1:4]...), toldMsg(1, 0, 3, 2, true)}
	checkGoodCluster(t, "in each other", c, true)
	for _, s := range anySteps(c) {
		checkClusterStep(t, "in each other", c, s)
		got, _ := impl.StepCluster(c, s)
		wantApart(t, "in each other", spansOf("the answer", reflect.ValueOf(got)))
		scribbleCluster(got)
		if !slices.Equal(log, keptLog) || !slices.Equal(numbers, keptNumbers) {
			t.Fatalf("%v writes into what the nodes lie in", s)
		}
	}
}

// What was answered ahead stays as it was, whatever is asked for later.
func TestClustersThatWereAnsweredStay(t *testing.T) {
	for peers := 1; peers <= 7; peers++ {
		c := newCluster(peers)
		row, kept := []impl.Cluster{c}, []impl.Cluster{copiedCluster(c)}
		for _, s := range longPlay(peers+70, peers, 60) {
			if next, ok := impl.StepCluster(c, s); ok {
				c = next
				row, kept = append(row, c), append(kept, copiedCluster(c))
			}
		}
		for i := range row {
			if !sameCluster(row[i], kept[i]) {
				t.Errorf("%d peers: answer %d is changed by a later call", peers, i)
			}
		}
	}
}

// Each wrong beside all else right or wrong: no call fails to answer.
func TestClustersAtAnyArguments(t *testing.T) {
	numbers := []int{math.MinInt, -1, 0, 1, 2, 3, 7, 8, 60, 61, 200, 1000, 1001, math.MaxInt}
	for _, x := range numbers {
		checkPlay(t, "any", x, nil)
		got, ok := impl.NewCluster(x)
		if ok != isWithin(x, 1, 7) || len(got.Nodes) > 7 {
			t.Errorf("NewCluster(%d): %v", x, ok)
		}
		for _, y := range numbers {
			for _, c := range []impl.Cluster{{}, newCluster(2), withNet(ledThree(), netOf(60)...), newCluster(8)} {
				for kind := -1; kind <= 8; kind++ {
					checkClusterStep(t, "any", c, impl.ClusterStep{Kind: kind, Node: x, K: y, Many: x, Data: "any"})
					checkClusterStep(t, "any", c, impl.ClusterStep{Kind: kind, Node: 0, K: x, Many: y, Data: sized(101)})
				}
			}
			checkAnyCluster(t, impl.Cluster{Nodes: []impl.RaftNode{{Id: x, Peers: y, Vote: -1}}})
			checkAnyCluster(t, changedCluster(ledThree(), func(c *impl.Cluster) { c.Nodes[1].Term, c.Nodes[2].Commit = x, y }))
			checkAnyCluster(t, withNet(ledThree(), impl.RaftMsg{Kind: 3, From: x, To: y, Term: x, Index: y, Entries: logOf(1)}))
			checkAnyCluster(t, changedCluster(newCluster(3), func(c *impl.Cluster) { c.Leads = []impl.Lead{{Term: x, Node: y}} }))
		}
	}
}

func checkAnyCluster(t *testing.T, c impl.Cluster) {
	t.Helper()
	checkGoodCluster(t, "any", c, isClusterByHand(c))
	checkAsked(t, "any", c)
	for _, s := range []impl.ClusterStep{timeoutOf(0), crashOf(0), proposeTo(0, ""), send(0, 1, 1), deliver(0), lose(0), double(0)} {
		checkClusterStep(t, "any", c, s)
	}
}

func TestClustersAnswerAlikeEachTime(t *testing.T) {
	for name, c := range manyClusters() {
		for _, x := range clusterCalls(c) {
			first := x.call(c)
			for range 3 {
				if got := x.call(c); !sameClusterMade(got, first) {
					t.Errorf("%s: %s: %s, and then %s", name, x.name, shown(first), shown(got))
				}
			}
		}
	}
}
