package tests

import (
	"fmt"
	"math"
	"slices"
	"testing"

	"loop.example/g00224/impl"
)

// The states and replies of servedLog, written out: up to each index, from 0 on.
func servedStates() ([]impl.KvState, []*impl.Reply) {
	cells := func(l ...impl.Pair) []impl.Pair { return l }
	sessions := func(l ...impl.Session) []impl.Session { return l }
	ax, az, by := pair("a", "x"), pair("a", "z"), pair("b", "y")
	ok := replied(impl.ReplyOk, "")
	stale, had, got, none := replied(impl.ReplyStale, ""), replied(impl.ReplyOk, "y"), replied(impl.ReplyOk, "z"), replied(impl.ReplyNone, "")
	one := sessions(heard(1, 1, impl.ReplyOk, ""))
	both := sessions(heard(1, 1, impl.ReplyOk, ""), heard(2, 1, impl.ReplyOk, ""))
	swapped := sessions(heard(1, 2, impl.ReplyOk, ""), heard(2, 1, impl.ReplyOk, ""))
	deleted := sessions(heard(1, 2, impl.ReplyOk, ""), heard(2, 2, impl.ReplyOk, "y"))
	third := sessions(heard(1, 2, impl.ReplyOk, ""), heard(2, 2, impl.ReplyOk, "y"), heard(3, 5, impl.ReplyOk, "z"))
	last := sessions(heard(1, 3, impl.ReplyNone, ""), heard(2, 2, impl.ReplyOk, "y"), heard(3, 5, impl.ReplyOk, "z"))
	states := []impl.KvState{
		{},
		{Cells: cells(ax), Sessions: one},
		{Cells: cells(ax, by), Sessions: both},
		{Cells: cells(ax, by), Sessions: both},
		{Cells: cells(az, by), Sessions: swapped},
		{Cells: cells(az, by), Sessions: swapped},
		{Cells: cells(az, by), Sessions: swapped},
		{Cells: cells(az), Sessions: deleted},
		{Cells: cells(az), Sessions: deleted},
		{Cells: cells(az), Sessions: third},
		{Cells: cells(az), Sessions: last},
	}
	return states, []*impl.Reply{nil, &ok, &ok, nil, &ok, &ok, &stale, &had, nil, &got, &none}
}

func TestServedClustersAreGood(t *testing.T) {
	for name, c := range servedClusters() {
		checkGoodCluster(t, name, c, true)
	}
	for name, x := range map[string]impl.Cluster{"three": servedThree(), "one": servedBy(servedLog())} {
		checkGoodCluster(t, name, x, true)
	}
}

// Each index up to Commit is asked for, and beside it those that are none.
func TestStatesAndRepliesOfALog(t *testing.T) {
	states, replies := servedStates()
	c := servedThree()
	for node, n := range c.Nodes {
		for index := range states {
			what := fmt.Sprintf("%d of %d", index, n.Commit)
			if index > n.Commit {
				wantNoStateUpTo(t, what, c, node, index)
				wantNoReplyAt(t, what, c, node, index)
				continue
			}
			wantStateUpTo(t, what, c, node, index, states[index])
			if replies[index] == nil {
				wantNoReplyAt(t, what, c, node, index)
			} else {
				wantReplyAt(t, what, c, node, index, *replies[index])
			}
			checkStateAt(t, what, c, node, index)
		}
		got, ok := impl.StateOfNode(c, node)
		if !ok {
			t.Errorf("StateOfNode %d: false", node)
		}
		wantState(t, fmt.Sprint("StateOfNode ", node), got, states[n.Commit])
	}
}

// indexesOf are all indexes of a node's log, and some that are none.
func indexesOf(c impl.Cluster, node int) []int {
	l := []int{math.MinInt, -2, -1, 0, 1, 60, 61, math.MaxInt - 1, math.MaxInt}
	if isWithin(node, 0, len(c.Nodes)-1) {
		for index := range len(c.Nodes[node].Log) + 2 {
			l = append(l, index)
		}
	}
	return l
}

func TestStatesOfManyClusters(t *testing.T) {
	for name, c := range allServices() {
		for _, node := range []int{math.MinInt, -1, 0, 1, 2, 3, 6, 7, math.MaxInt} {
			checkStateOfNode(t, name, c, node)
			for _, index := range indexesOf(c, node) {
				checkStateAt(t, name, c, node, index)
			}
		}
	}
}

func TestStatesOfAClusterThatIsNotGood(t *testing.T) {
	for name, c := range allServices() {
		if isClusterByHand(c) {
			continue
		}
		for node := range 8 {
			for _, index := range []int{0, 1, 4} {
				wantNoStateUpTo(t, name, c, node, index)
				wantNoReplyAt(t, name, c, node, index)
			}
			if got, ok := impl.StateOfNode(c, node); ok || !sameState(got, impl.KvState{}) {
				t.Errorf("%s: StateOfNode %d: %s %v, want nothing", name, node, shown(got), ok)
			}
		}
	}
}

func TestStatesOfANodeThatIsNone(t *testing.T) {
	for _, c := range []impl.Cluster{servedThree(), servedBy(servedLog()), newCluster(7)} {
		for _, node := range []int{math.MinInt, -1, len(c.Nodes), len(c.Nodes) + 1, math.MaxInt} {
			for _, index := range []int{0, 1, 4} {
				wantNoStateUpTo(t, "no node", c, node, index)
				wantNoReplyAt(t, "no node", c, node, index)
			}
			if got, ok := impl.StateOfNode(c, node); ok || !sameState(got, impl.KvState{}) {
				t.Errorf("StateOfNode %d: %s %v, want nothing", node, shown(got), ok)
			}
		}
	}
}

// At 0 there is the empty state and no reply; beyond Commit neither, though the log goes on.
func TestStatesAtTheEdges(t *testing.T) {
	log := servedLog()
	for commit := 0; commit <= len(log); commit++ {
		c := clusterWith(2, followingNode(1, 2, 5, -1, log, commit))
		what := fmt.Sprint("Commit ", commit)
		for node := range 2 {
			wantStateUpTo(t, what, c, node, 0, impl.KvState{})
			wantNoReplyAt(t, what, c, node, 0)
			wantNoStateUpTo(t, what, c, node, -1)
			wantNoReplyAt(t, what, c, node, -1)
		}
		for _, index := range []int{1, commit - 1, commit, commit + 1, len(log), len(log) + 1} {
			checkStateAt(t, what, c, 1, index)
			if _, ok := impl.StateUpTo(c, 1, index); ok != isWithin(index, 0, commit) {
				t.Errorf("%s: StateUpTo %d: %v", what, index, ok)
			}
			if _, ok := impl.ReplyAt(c, 1, index); ok != (isWithin(index, 1, commit) && index != 3 && index != 8) {
				t.Errorf("%s: ReplyAt %d: %v", what, index, ok)
			}
		}
		checkStateOfNode(t, what, c, 0)
		checkStateOfNode(t, what, c, 1)
	}
}

// What is no command does nothing: with such entries anywhere among them the states are those of the commands alone, and the replies too.
func TestEntriesThatAreNoCommandDoNothing(t *testing.T) {
	for seed := range 60 {
		d := dealingOf(seed)
		commands := fitting(d.commands(20, 3, 6)...)
		var log []impl.Entry
		var places []int
		for _, x := range commands {
			for range d.below(3) {
				log = append(log, noted(1, d.noCommand())...)
			}
			log = append(log, entered(1, x)...)
			places = append(places, len(log))
		}
		log = log[:min(len(log), 60)]
		c := servedBy(log)
		for i, place := range places {
			if place > len(log) {
				break
			}
			want, replies, _ := foldByHand(commands[:i+1])
			what := fmt.Sprintf("seed %d, command %d at %d", seed, i, place)
			wantStateUpTo(t, what, c, 0, place, want)
			wantReplyAt(t, what, c, 0, place, replies[i])
		}
		for index := 1; index <= len(log); index++ {
			if slices.Contains(places, index) {
				continue
			}
			wantNoReplyAt(t, "no command", c, 0, index)
			before, _ := impl.StateUpTo(c, 0, index-1)
			wantStateUpTo(t, "no command", c, 0, index, before)
		}
	}
}

// Every text that is no command's, as the only entry and among others.
func TestEachTextThatIsNoCommand(t *testing.T) {
	for _, text := range append(noCommands(), anyTexts()...) {
		if _, is := readCommandByHand(text); is || len(text) > 100 {
			continue
		}
		what := fmt.Sprintf("%.30q", text)
		log := slices.Concat(noted(1, text), entered(1, putting(1, 1, "k", "v")), noted(2, text, text), entered(2, getting(1, 2, "k")), noted(2, text))
		c := servedBy(log)
		for index := range 7 {
			checkStateAt(t, what, c, 0, index)
		}
		for _, index := range []int{1, 3, 4, 6} {
			wantNoReplyAt(t, what, c, 0, index)
		}
		wantReplyAt(t, what, c, 0, 2, replied(impl.ReplyOk, ""))
		wantReplyAt(t, what, c, 0, 5, replied(impl.ReplyOk, "v"))
	}
}

// A command that comes again is in the log twice: it is answered alike and changes nothing.
func TestACommandThatIsInTheLogTwice(t *testing.T) {
	for seed := range 40 {
		d := dealingOf(seed)
		l := fitting(d.aClient(20, 3)...)
		var log []impl.Entry
		for _, x := range l {
			log = append(log, entered(1, x, x)...)
		}
		c := servedBy(log)
		for i := range l {
			what := fmt.Sprintf("seed %d, command %d", seed, i)
			first, _ := impl.StateUpTo(c, 0, 2*i+1)
			wantStateUpTo(t, what, c, 0, 2*i+2, first)
			r, _ := impl.ReplyAt(c, 0, 2*i+1)
			wantReplyAt(t, what, c, 0, 2*i+2, r)
		}
		once, _, _ := foldByHand(l)
		wantStateUpTo(t, "once", c, 0, 2*len(l), once)
	}
}

// A command is answered as it stands there: one late, with what was put in between, one to a full map, one of a session too many.
func TestRepliesThatAreNotOk(t *testing.T) {
	var puts, sessions []impl.Command
	for i := range 42 {
		puts = append(puts, putting(1, i+1, numbered(i), "v"))
	}
	for i := range 14 {
		sessions = append(sessions, putting(i, 1, "k", fmt.Sprint(i)))
	}
	c := servedBy(entered(1, puts...))
	wantReplyAt(t, "40 cells", c, 0, 40, replied(impl.ReplyOk, ""))
	wantReplyAt(t, "41 cells", c, 0, 41, replied(impl.ReplyBad, ""))
	wantReplyAt(t, "42 cells", c, 0, 42, replied(impl.ReplyBad, ""))
	c = servedBy(entered(1, sessions...))
	wantReplyAt(t, "12 sessions", c, 0, 12, replied(impl.ReplyOk, ""))
	wantReplyAt(t, "13 sessions", c, 0, 13, replied(impl.ReplyBad, ""))
	wantReplyAt(t, "14 sessions", c, 0, 14, replied(impl.ReplyBad, ""))
	c = servedBy(entered(1, putting(1, 5, "k", "v"), putting(1, 4, "k", "w"), swapping(1, 6, "k", "w", "x"), getting(1, 7, "none")))
	wantReplyAt(t, "late", c, 0, 2, replied(impl.ReplyStale, ""))
	wantReplyAt(t, "differs", c, 0, 3, replied(impl.ReplyDiffers, "v"))
	wantReplyAt(t, "none", c, 0, 4, replied(impl.ReplyNone, ""))
}

// A log of commands alone is folded as FoldCommands folds them.
func TestALogOfCommandsAloneIsFolded(t *testing.T) {
	for seed := range 60 {
		d := dealingOf(seed)
		l := fitting(d.commands(d.below(61), 1+d.below(14), 1+d.below(20))...)
		c := servedBy(entered(1, l...))
		want, replies, _ := impl.FoldCommands(l)
		wantStateUpTo(t, fmt.Sprint("seed ", seed), c, 0, len(l), want)
		for i, r := range replies {
			wantReplyAt(t, fmt.Sprint("seed ", seed), c, 0, i+1, r)
		}
	}
}

// What is told of an index does not hang on what lies behind it, nor on what else is in the cluster.
func TestStatesHangOnNothingElse(t *testing.T) {
	for seed := range 30 {
		d := dealingOf(seed)
		log := d.served(30, 3, 8)
		index := d.below(31)
		short := clusterWith(3, followingNode(1, 3, 20, -1, log[:index], index))
		long := withLeads(withNet(clusterWith(3, leadingNode(1, 3, 20, slices.Concat(log, noted(20, "x")), 31, 0, 31, 3), followingNode(0, 3, 10, 2, d.served(20, 2, 3), 11)), netOf(30)...), 44)
		want, _ := stateUpToByHand(short, 1, index)
		for _, c := range []impl.Cluster{short, long} {
			wantStateUpTo(t, fmt.Sprint("seed ", seed), c, 1, index, want)
			checkStateAt(t, fmt.Sprint("seed ", seed), c, 1, index)
		}
	}
}
