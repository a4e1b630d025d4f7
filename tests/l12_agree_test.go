package tests

import (
	"cmp"
	"fmt"
	"slices"
	"strconv"
	"testing"

	"loop.example/g00224/impl"
)

// A story is a cluster beside what was ever seen of it: all that any node had committed, and from which Term of who led each was. (A crash forgets how much a node has committed; the story does not.)
type story struct {
	c         impl.Cluster
	steps     []impl.ClusterStep
	did       []bool
	committed []impl.Entry
	terms     []int
	cuts      int
	crossed   int
	sides     []int
	who       int
	asked     bool
}

func storyOf(t *testing.T, peers int) *story {
	t.Helper()
	c, ok := impl.NewCluster(peers)
	if !ok {
		t.Fatalf("NewCluster(%d) is refused", peers)
	}
	return &story{c: c, sides: make([]int, peers)}
}

// tell does a step, holds it against the document's words, and asks for promise 12 behind it.
func (x *story) tell(t *testing.T, what string, s impl.ClusterStep) {
	t.Helper()
	next, ok := checkClusterStep(t, what, x.c, s)
	x.steps, x.did = append(x.steps, s), append(x.did, ok)
	if !ok {
		return
	}
	wantAgreed(t, what, next)
	for id, n := range next.Nodes {
		before := x.c.Nodes[id]
		if len(n.Log) < len(before.Log) || !slices.Equal(n.Log[:len(before.Log)], before.Log) {
			x.cuts++
		}
	}
	x.c = next
	x.remember(t, what)
}

// remember asks, over all that was ever committed, for state machine safety, and for leader completeness of each who leads in a later Term than that in which it was committed.
func (x *story) remember(t *testing.T, what string) {
	t.Helper()
	last := 0
	if len(x.c.Leads) > 0 {
		last = slices.MaxFunc(x.c.Leads, func(a impl.Lead, b impl.Lead) int { return cmp.Compare(a.Term, b.Term) }).Term
	}
	for _, n := range x.c.Nodes {
		many := min(n.Commit, len(x.committed))
		if !slices.Equal(n.Log[:many], x.committed[:many]) {
			t.Errorf("%s: another entry was committed there: %s, of %s", what, shown(n), shown(x.committed))
		}
		for _, e := range n.Log[many:n.Commit] {
			x.committed = append(x.committed, e)
			x.terms = append(x.terms, last)
		}
	}
	lead := 0
	for _, n := range x.c.Nodes {
		if n.Role != impl.RoleLeads {
			continue
		}
		lead++
		// Of what was committed up to its Term it has all.
		many := 0
		for many < len(x.terms) && x.terms[many] <= n.Term {
			many++
		}
		if len(n.Log) < many || !slices.Equal(n.Log[:many], x.committed[:many]) {
			t.Errorf("%s: %s leads without %s", what, shown(n), shown(x.committed[:many]))
		}
	}
	if lead > 1 {
		x.crossed++
	}
}

// anyLeading is one of those that lead, in whatever Term, -1 where nobody does.
func (x *story) anyLeading(d *dealing) int {
	l, _ := leadersByHand(x.c)
	if len(l) == 0 {
		return -1
	}
	return l[d.below(len(l))].Node
}

// A temper tells how many of a hundred steps are drawn at random, in place of one that helps who is to lead just now; and of these, of forty, how many crash a node, time one out, can not be done, lose or double a message. The rest of them delivers one, however late.
type temper struct {
	name                                       string
	random, crash, timeout, wrong, lose, twice int
}

func tempers() []temper {
	return []temper{
		{name: "calm", random: 10, crash: 1, timeout: 1, wrong: 4, lose: 4, twice: 8},
		{name: "wild", random: 25, crash: 4, timeout: 6, wrong: 4, lose: 6, twice: 6},
		{name: "late", random: 40, crash: 1, timeout: 1, wrong: 1, lose: 1, twice: 12},
	}
}

// turn lets another one try to lead, or one that leads go on; for a while the nodes reach only those on their side.
func (x *story) turn(d *dealing) {
	x.who = d.below(len(x.c.Nodes))
	if who := x.anyLeading(d); who >= 0 && d.below(3) == 0 {
		x.who = who
	}
	x.asked = x.c.Nodes[x.who].Role == impl.RoleLeads
	apart := d.below(2)
	for id := range x.sides {
		x.sides[id] = apart * d.below(3) / 2
	}
}

func (x *story) nextStep(d *dealing, h temper) impl.ClusterStep {
	if d.below(100) < h.random {
		return x.randomStep(d, h)
	}
	if !x.asked {
		x.asked = true
		return timeoutOf(x.who)
	}
	l := x.nearMessages()
	if x.c.Nodes[x.who].Role == impl.RoleLeads && (len(l) == 0 || d.below(3) == 0) {
		return x.leadOn(d)
	}
	if len(l) == 0 {
		x.turn(d)
		return timeoutOf(x.who)
	}
	return deliver(l[len(l)-1-d.below(min(len(l), 6))])
}

// leadOn is what one that leads does by itself.
func (x *story) leadOn(d *dealing) impl.ClusterStep {
	peers := len(x.c.Nodes)
	if peers == 1 || d.below(peers+1) == 0 {
		return proposeTo(x.who, fmt.Sprint(len(x.steps), " of ", x.who))
	}
	return send(x.who, (x.who+1+d.below(peers-1))%peers, []int{0, 1, 1, 2, 60, 60}[d.below(6)])
}

// nearMessages are from or to who is to lead, on its side; the others stay, and so come late.
func (x *story) nearMessages() []int {
	var l []int
	for k, m := range x.c.Net {
		if (m.From == x.who || m.To == x.who) && x.sides[m.From] == x.sides[m.To] {
			l = append(l, k)
		}
	}
	return l
}

func (x *story) randomStep(d *dealing, h temper) impl.ClusterStep {
	id, k := d.below(len(x.c.Nodes)), d.below(len(x.c.Net)+1)
	pick := d.below(40)
	passed := func(many int) bool {
		is := isWithin(pick, 0, many-1)
		pick -= many
		return is
	}
	switch {
	case passed(h.crash):
		return crashOf(id)
	case passed(h.timeout):
		return timeoutOf(id)
	case passed(h.wrong):
		l := anySteps(x.c)
		return l[d.below(len(l))]
	case passed(h.lose):
		return lose(k)
	case passed(h.twice):
		return double(k)
	}
	return deliver(k)
}

// wantPlay asks PlayCluster for the same, of all steps and of some of the first.
func (x *story) wantPlay(t *testing.T, peers int) {
	t.Helper()
	got, did, ok := impl.PlayCluster(peers, x.steps)
	wantCluster(t, "PlayCluster", got, ok, x.c)
	if !slices.Equal(did, x.did) {
		t.Errorf("done are %v, want %v", did, x.did)
	}
	wantAgreed(t, "PlayCluster", got)
	checkAsked(t, "PlayCluster", got)
	for many := 0; many < len(x.steps); many += 37 {
		c, did, ok := impl.PlayCluster(peers, x.steps[:many])
		if !ok || !slices.Equal(did, x.did[:many]) {
			t.Errorf("of %d steps other ones are done", many)
		}
		wantAgreed(t, fmt.Sprint("PlayCluster of ", many), c)
	}
}

// A tally is what drawn plays have seen, so that none of it goes untested.
type tally struct{ peers, committed, leads, cuts, crossed, refused int }

func (x *story) tally() tally {
	refused := 0
	for _, did := range x.did {
		if !did {
			refused++
		}
	}
	return tally{peers: len(x.c.Nodes), committed: len(x.committed), leads: len(x.c.Leads), cuts: x.cuts, crossed: x.crossed, refused: refused}
}

func (a tally) and(b tally) tally {
	return tally{peers: b.peers, committed: a.committed + b.committed, leads: a.leads + b.leads, cuts: a.cuts + b.cuts, crossed: a.crossed + b.crossed, refused: a.refused + b.refused}
}

// drawnPlays tells so many drawn plays of so many steps, of one to seven peers and of each temper.
func drawnPlays(t *testing.T, plays int, steps int) [8]tally {
	all := make(chan tally, 7*3*plays)
	t.Run("all", func(t *testing.T) {
		for peers := 1; peers <= 7; peers++ {
			for _, h := range tempers() {
				t.Run(fmt.Sprint(peers, " peers, ", h.name), func(t *testing.T) {
					t.Parallel()
					for seed := range plays {
						all <- drawnPlay(t, peers, steps, seed, h)
					}
				})
			}
		}
	})
	close(all)
	var sums [8]tally
	for x := range all {
		sums[x.peers] = sums[x.peers].and(x)
	}
	return sums
}

func drawnPlay(t *testing.T, peers int, steps int, seed int, h temper) tally {
	t.Helper()
	x, d := storyOf(t, peers), dealingOf(seed*31+peers+steps)
	for i := range steps {
		if i%(10+6*peers) == 0 {
			x.turn(d)
		}
		x.tell(t, fmt.Sprint("seed ", seed, ", step ", i), x.nextStep(d, h))
	}
	if steps <= 200 {
		x.wantPlay(t, peers)
	}
	return x.tally()
}

// wantMuchSeen asks that entries were committed, nodes led (several at once, where that may be) and logs were cut, of however many peers.
func wantMuchSeen(t *testing.T, sums [8]tally, committed int, leads int, cuts int, crossed int) {
	t.Helper()
	for _, x := range sums[1:] {
		quiet := x.committed < committed || x.leads < leads || x.refused < 100
		// Of one or two peers all must agree on who leads, and so on what is put.
		if quiet || x.peers > 2 && (x.cuts < cuts || x.crossed < crossed) {
			t.Errorf("the plays are too quiet: %+v", x)
		}
	}
}

// Plays as long as PlayCluster plays them.
func TestDrawnPlays(t *testing.T) {
	wantMuchSeen(t, drawnPlays(t, 70, 200), 200, 400, 20, 100)
}

// Longer ones, step by step.
func TestLongDrawnPlays(t *testing.T) {
	wantMuchSeen(t, drawnPlays(t, 7, 1500), 200, 200, 20, 60)
}

// settle delivers until nothing is on its way.
func (x *story) settle(t *testing.T, what string) {
	t.Helper()
	for len(x.c.Net) > 0 {
		if len(x.steps) > 1000 {
			t.Fatalf("%s: messages without end", what)
		}
		x.tell(t, what, deliver(0))
	}
}

// A play in which nothing goes wrong: one is chosen, entries are put to it, and all have committed them in the end.
func TestAPlayWithoutFaults(t *testing.T) {
	for peers := 1; peers <= 7; peers++ {
		for id := range peers {
			what := fmt.Sprintf("%d of %d", id, peers)
			x := storyOf(t, peers)
			x.tell(t, what, timeoutOf(id))
			x.settle(t, what)
			x.tell(t, what, proposeTo(id, "a"))
			x.tell(t, what, proposeTo(id, "b"))
			for range 2 {
				for to := range peers {
					x.tell(t, what, send(id, to, 2))
				}
				x.settle(t, what)
			}
			x.wantPlay(t, peers)
			want := []impl.Entry{{Term: 1, Data: "a"}, {Term: 1, Data: "b"}}
			if l, ok := impl.CommonLog(x.c); !ok || !slices.Equal(l, want) {
				t.Errorf("%s: all have committed %s %v", what, shown(l), ok)
			}
			if l, ok := impl.LeadersOf(x.c); !ok || !slices.Equal(l, []impl.Lead{{Term: 1, Node: id}}) || !slices.Equal(l, x.c.Leads) {
				t.Errorf("%s: %v %v leads", what, l, ok)
			}
			if term, ok := impl.HighestTerm(x.c); !ok || term != 1 {
				t.Errorf("%s: the term is %d %v", what, term, ok)
			}
		}
	}
}

// pass delivers the newest message of a kind from one to another.
func (x *story) pass(t *testing.T, kind int, from int, to int) {
	t.Helper()
	for k, m := range slices.Backward(x.c.Net) {
		if m.Kind == kind && m.From == from && m.To == to {
			x.tell(t, fmt.Sprintf("%d from %d to %d", kind, from, to), deliver(k))
			return
		}
	}
	t.Fatalf("no message %d from %d to %d: %s", kind, from, to, shown(x.c.Net))
}

// elect lets one ask so often, and lead by the votes of others.
func (x *story) elect(t *testing.T, id int, often int, by ...int) {
	t.Helper()
	for range often {
		x.tell(t, fmt.Sprint(id, " asks"), timeoutOf(id))
	}
	for _, other := range by {
		x.pass(t, impl.RaftAsk, id, other)
		x.pass(t, impl.RaftVote, other, id)
	}
	if x.c.Nodes[id].Role != impl.RoleLeads {
		t.Fatalf("%d does not lead: %s", id, shown(x.c.Nodes[id]))
	}
}

// carry sends entries and delivers them.
func (x *story) carry(t *testing.T, id int, to int) {
	t.Helper()
	x.tell(t, fmt.Sprintf("%d sends to %d", id, to), send(id, to, 60))
	x.pass(t, impl.RaftAppend, id, to)
}

// What a node told in an earlier Term, and lost since, does not count when who leads hears of it in a later one.
func TestWhatIsToldLateDoesNotCount(t *testing.T) {
	x := storyOf(t, 5)
	x.elect(t, 0, 1, 1, 2)
	x.tell(t, "0", proposeTo(0, "a"))
	x.tell(t, "0", proposeTo(0, "b"))
	x.carry(t, 0, 1)
	x.elect(t, 2, 1, 3, 4)
	x.tell(t, "2", proposeTo(2, "c"))
	x.carry(t, 2, 0)
	x.carry(t, 2, 1)
	x.elect(t, 0, 1, 3, 4)
	x.tell(t, "0", proposeTo(0, "d"))
	x.carry(t, 0, 4)
	x.pass(t, impl.RaftTold, 4, 0)
	x.pass(t, impl.RaftTold, 1, 0)
	if n := x.c.Nodes[0]; n.Commit != 0 || n.Match[1] != 0 || n.Match[4] != 2 {
		t.Errorf("two of five have it: %s", shown(n))
	}
	x.elect(t, 1, 2, 2, 3)
	if l := x.c.Nodes[1].Log; len(l) != 1 || x.c.Nodes[1].Term != 4 {
		t.Errorf("1 leads with %s", shown(l))
	}
	x.wantPlay(t, 5)
}

// Entries of one who led in a lesser Term, which come late, undo nothing.
func TestEntriesThatComeLateUndoNothing(t *testing.T) {
	x := storyOf(t, 3)
	x.elect(t, 0, 1, 1)
	x.tell(t, "0", proposeTo(0, "a"))
	x.tell(t, "0", send(0, 1, 60))
	x.elect(t, 2, 2, 1)
	x.tell(t, "2", proposeTo(2, "b"))
	x.carry(t, 2, 1)
	x.pass(t, impl.RaftTold, 1, 2)
	if x.c.Nodes[2].Commit != 1 {
		t.Errorf("most have it: %s", shown(x.c.Nodes[2]))
	}
	x.pass(t, impl.RaftAppend, 0, 1)
	if n := x.c.Nodes[1]; len(n.Log) != 1 || n.Log[0].Data != "b" {
		t.Errorf("what is committed is cut: %s", shown(n))
	}
	x.tell(t, "0", crashOf(0))
	x.tell(t, "0 asks", timeoutOf(0))
	x.tell(t, "0 asks", timeoutOf(0))
	x.pass(t, impl.RaftAsk, 0, 1)
	x.pass(t, impl.RaftVote, 1, 0)
	if n := x.c.Nodes[0]; n.Role != impl.RoleAsks || n.Term != 3 {
		t.Errorf("who lacks what is committed: %s", shown(n))
	}
	x.wantPlay(t, 3)
}

// clusterKey tells clusters apart: two with the same messages on their way, in whatever order, have the same plays ahead.
func clusterKey(c impl.Cluster) string {
	var b []byte
	number := func(l ...int) {
		for _, n := range l {
			b = append(strconv.AppendInt(b, int64(n), 10), ' ')
		}
	}
	entries := func(l []impl.Entry) {
		number(len(l))
		for _, e := range l {
			number(e.Term)
			b = strconv.AppendQuote(b, e.Data)
		}
	}
	for _, n := range c.Nodes {
		number(n.Term, n.Vote, n.Commit, n.Role, len(n.Votes))
		number(n.Votes...)
		number(n.Match...)
		entries(n.Log)
	}
	for _, x := range c.Leads {
		number(x.Term, x.Node)
	}
	var net []string
	for _, m := range c.Net {
		from := len(b)
		yes := 0
		if m.Yes {
			yes = 1
		}
		number(m.Kind, m.From, m.To, m.Term, m.Index, m.Before, m.Commit, yes)
		entries(m.Entries)
		net = append(net, string(b[from:]))
		b = b[:from]
	}
	slices.Sort(net)
	for _, s := range net {
		b = append(append(b, s...), '|')
	}
	return string(b)
}

// allStepsOf are all steps that may do something to a cluster, with few entries sent at once.
func allStepsOf(c impl.Cluster) []impl.ClusterStep {
	var l []impl.ClusterStep
	for id, n := range c.Nodes {
		l = append(l, timeoutOf(id), crashOf(id))
		if n.Role != impl.RoleLeads {
			continue
		}
		l = append(l, proposeTo(id, strconv.Itoa(id)))
		for to := range c.Nodes {
			if to != id {
				l = append(l, send(id, to, 1), send(id, to, 60))
			}
		}
	}
	for k := range c.Net {
		l = append(l, deliver(k), lose(k), double(k))
	}
	return l
}

// allPlays goes through all plays of so many steps from a cluster on, and asks of each cluster on the way once.
func allPlays(t *testing.T, what string, c impl.Cluster, deep int) int {
	t.Helper()
	seen := map[string]bool{clusterKey(c): true}
	row := []impl.Cluster{c}
	for at := range deep {
		var next []impl.Cluster
		for _, c := range row {
			for _, s := range allStepsOf(c) {
				x, ok := checkClusterStep(t, fmt.Sprint(what, ", step ", at), c, s)
				key := clusterKey(x)
				if !ok || seen[key] {
					continue
				}
				seen[key] = true
				wantAgreed(t, fmt.Sprint(what, ", step ", at), x)
				next = append(next, x)
			}
			if t.Failed() {
				t.Fatalf("%s: a play of %d steps fails", what, at+1)
			}
		}
		row = next
	}
	return len(seen)
}

// shortStart is where short plays begin: peers, and what was played ahead.
type shortStart struct {
	name  string
	peers int
	ahead []impl.ClusterStep
	deep  int
	least int
}

func shortStarts() []shortStart {
	led := []impl.ClusterStep{timeoutOf(0), deliver(0), deliver(0), deliver(0), deliver(0), proposeTo(0, "a")}
	// 0 leads on in Term 1 with entries of its own, 1 leads in Term 2 with others.
	differ := slices.Concat(led, []impl.ClusterStep{send(0, 1, 1), deliver(0), lose(0), proposeTo(0, "b"), timeoutOf(1), lose(0), deliver(0), deliver(0), proposeTo(1, "c")})
	// 0 leads in Term 3 with an entry of Term 1, which 1 has too and is about to tell; 2, with an entry of Term 2, asks in Term 4.
	second := []impl.ClusterStep{crashOf(0), timeoutOf(2), lose(0), deliver(0), deliver(0), proposeTo(2, "b"), crashOf(2)}
	third := []impl.ClusterStep{timeoutOf(0), timeoutOf(0), lose(0), lose(0), deliver(0), lose(0), deliver(0), send(0, 1, 60), deliver(0)}
	earlier := slices.Concat(led, second, third, []impl.ClusterStep{timeoutOf(2), timeoutOf(2), lose(1), lose(1)})
	return []shortStart{
		{name: "two, new", peers: 2, deep: 8, least: 60000},
		{name: "three, new", peers: 3, deep: 6, least: 45000},
		{name: "two, led", peers: 2, ahead: led[:3], deep: 8, least: 45000},
		{name: "three, led", peers: 3, ahead: led, deep: 5, least: 9000},
		{name: "three, logs that differ", peers: 3, ahead: differ, deep: 5, least: 30000},
		{name: "three, an entry of an earlier term", peers: 3, ahead: earlier, deep: 5, least: 30000},
	}
}

func TestAllShortPlays(t *testing.T) {
	for _, s := range shortStarts() {
		t.Run(s.name, func(t *testing.T) {
			t.Parallel()
			c, did, ok := impl.PlayCluster(s.peers, s.ahead)
			if !ok || slices.Contains(did, false) {
				t.Fatalf("not all steps ahead are done: %v", did)
			}
			many := allPlays(t, s.name, c, s.deep)
			t.Logf("%d clusters", many)
			if many < s.least {
				t.Errorf("%d clusters: too few", many)
			}
		})
	}
}
