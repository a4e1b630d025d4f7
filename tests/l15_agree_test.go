package tests

import (
	"fmt"
	"slices"
	"testing"

	"loop.example/g00224/impl"
)

// A nodeTold is what one node tells of each index that it has committed, from 0 on; of an index that is no command there is no reply.
type nodeTold struct {
	states  []impl.KvState
	replies []impl.Reply
	is      []bool
}

func toldByNode(t *testing.T, what string, c impl.Cluster, node int) nodeTold {
	t.Helper()
	var x nodeTold
	for index := range c.Nodes[node].Commit + 1 {
		s, ok := impl.StateUpTo(c, node, index)
		if !ok {
			t.Errorf("%s: StateUpTo %d %d: false", what, node, index)
		}
		r, is := impl.ReplyAt(c, node, index)
		x.states, x.replies, x.is = append(x.states, s), append(x.replies, r), append(x.is, is)
	}
	return x
}

// A sameTally is how much was seen alike of two nodes, so that none of it goes untested.
type sameTally struct{ states, replies, again, none int }

// wantSameMaps asks any two nodes, at each index that both have committed, for the same state and the same reply.
func wantSameMaps(t *testing.T, what string, c impl.Cluster) sameTally {
	t.Helper()
	var sum sameTally
	var told []nodeTold
	for node := range c.Nodes {
		told = append(told, toldByNode(t, what, c, node))
	}
	for i, a := range told {
		for j, b := range told[:i] {
			for index := range min(len(a.states), len(b.states)) {
				if !sameState(a.states[index], b.states[index]) {
					t.Errorf("%s: up to %d node %d has %s, and node %d %s", what, index, i, shown(a.states[index]), j, shown(b.states[index]))
				}
				if a.replies[index] != b.replies[index] || a.is[index] != b.is[index] {
					t.Errorf("%s: at %d node %d answers %s %v, and node %d %s %v", what, index, i, shown(a.replies[index]), a.is[index], j, shown(b.replies[index]), b.is[index])
				}
			}
			sum = sum.and(seenAlike(a, min(len(a.states), len(b.states))))
		}
	}
	return sum
}

func seenAlike(x nodeTold, many int) sameTally {
	var sum sameTally
	for index := 1; index < many; index++ {
		if len(x.states[index].Cells) > 0 {
			sum.states++
		}
		switch same := sameState(x.states[index], x.states[index-1]); {
		case !x.is[index]:
			sum.none++
		case same:
			sum.again++
		default:
			sum.replies++
		}
	}
	return sum
}

func (a sameTally) and(b sameTally) sameTally {
	return sameTally{a.states + b.states, a.replies + b.replies, a.again + b.again, a.none + b.none}
}

// submit hands a command to a node; what comes of it is what a step makes that proposes its text.
func (x *story) submit(t *testing.T, what string, node int, c impl.Command) {
	t.Helper()
	got, index, ok := checkSubmit(t, what, x.c, node, c)
	x.tell(t, what, proposeTo(node, textByHand(c)))
	if !sameCluster(got, x.c) {
		t.Errorf("%s: SubmitCommand: %s", what, unlike(got, x.c))
	}
	if ok && x.c.Nodes[node].Log[index-1].Data != textByHand(c) {
		t.Errorf("%s: SubmitCommand: another entry is at %d", what, index)
	}
}

// serve does a step of a play; where it proposes, most times a command is submitted in its place.
func (x *story) serve(t *testing.T, what string, d *dealing, s impl.ClusterStep) {
	t.Helper()
	switch {
	case s.Kind == impl.DoPropose && d.below(5) > 0:
		x.submit(t, what, s.Node, fitting(d.command(4, 12))[0])
	case s.Kind == impl.DoPropose:
		s.Data = d.noCommand()
		x.tell(t, what, s)
	default:
		x.tell(t, what, s)
	}
}

func servedPlay(t *testing.T, peers int, steps int, seed int, h temper) sameTally {
	t.Helper()
	x, d := storyOf(t, peers), dealingOf(seed*41+peers)
	var sum sameTally
	for i := range steps {
		if i%(10+6*peers) == 0 {
			x.turn(d)
		}
		what := fmt.Sprint("seed ", seed, ", step ", i)
		x.serve(t, what, d, x.nextStep(d, h))
		if i%15 == 14 {
			sum = sum.and(wantSameMaps(t, what, x.c))
		}
	}
	for node := range peers {
		for index := range x.c.Nodes[node].Commit + 2 {
			checkStateAt(t, fmt.Sprint("seed ", seed), x.c, node, index)
		}
		checkStateOfNode(t, fmt.Sprint("seed ", seed), x.c, node)
	}
	return sum
}

// Drawn plays, in which commands are submitted to whoever leads, some again and late, with other texts among them.
func TestNodesHaveTheSameMap(t *testing.T) {
	sums := make(chan sameTally, 1000)
	t.Run("all", func(t *testing.T) {
		for peers := 2; peers <= 7; peers++ {
			for _, h := range tempers() {
				t.Run(fmt.Sprint(peers, " peers, ", h.name), func(t *testing.T) {
					t.Parallel()
					for seed := range 8 {
						sums <- servedPlay(t, peers, 300, seed, h)
					}
				})
			}
		}
	})
	close(sums)
	var all sameTally
	for x := range sums {
		all = all.and(x)
	}
	if all.states < 3000 || all.replies < 2000 || all.again < 1000 || all.none < 500 {
		t.Errorf("the plays are too quiet: %+v", all)
	}
}

// A service in which nothing goes wrong: every command is committed by all, and all have the map to which they come.
func TestAServiceWithoutFaults(t *testing.T) {
	for peers := 1; peers <= 7; peers++ {
		d := dealingOf(peers)
		l := fitting(d.aClient(30, 3)...)
		x := storyOf(t, peers)
		x.tell(t, "a timeout", timeoutOf(0))
		x.settle(t, "votes")
		for i, c := range l {
			x.submit(t, fmt.Sprint("command ", i), 0, c)
			if i%10 < 9 {
				continue
			}
			for range 2 {
				for to := range peers {
					x.tell(t, "a send", send(0, to, 60))
				}
				x.settle(t, "entries")
			}
		}
		want, replies, _ := impl.FoldCommands(l)
		for node := range peers {
			what := fmt.Sprintf("node %d of %d", node, peers)
			got, ok := impl.StateOfNode(x.c, node)
			if !ok || x.c.Nodes[node].Commit != 30 {
				t.Errorf("%s: %v, %d are committed", what, ok, x.c.Nodes[node].Commit)
			}
			wantState(t, what, got, want)
			for i, r := range replies {
				wantReplyAt(t, what, x.c, node, i+1, r)
			}
		}
	}
}

// Nodes of any role and Term, whose logs are unlike behind an index and the same up to it, have the same map up to it.
func TestSameLogsHaveTheSameMap(t *testing.T) {
	var all sameTally
	for seed := range 60 {
		d := dealingOf(seed)
		common := d.served(1+d.below(25), 3, 8)
		var c impl.Cluster
		for id := range 5 {
			log := slices.Concat(common, noted(9, fmt.Sprint("of ", id)), entered(10, putting(id, 1, "k", fmt.Sprint(id))))
			commit := d.below(len(common) + 1)
			nodes := []impl.RaftNode{followingNode(id, 5, 10+d.below(5), -1, log, commit), askingNode(id, 5, 10+d.below(5), log, commit, id), leadingNode(id, 5, 10, log, commit, slices.Repeat([]int{len(log)}, 5)...)}
			c.Nodes = append(c.Nodes, nodes[d.below(3)])
		}
		checkGoodCluster(t, "same logs", c, true)
		all = all.and(wantSameMaps(t, fmt.Sprint("seed ", seed), c))
	}
	if all.states < 1000 || all.none < 200 {
		t.Errorf("too little is seen: %+v", all)
	}
}

// everyPlan are all rows of so many plan numbers.
func everyPlan(many int) [][]int {
	l := [][]int{nil}
	for range many {
		var longer [][]int
		for _, plan := range l {
			for number := range 4 {
				longer = append(longer, append(slices.Clip(plan), number))
			}
		}
		l = longer
	}
	return l
}

// Whatever the plan is, the map is that of the commands: all plans of some short rows.
func TestTheMapIsTheSameWithEveryPlan(t *testing.T) {
	for name, l := range map[string][]impl.Command{
		"puts":      {putting(1, 1, "a", "1"), putting(1, 2, "b", "2"), putting(1, 3, "a", "3"), putting(1, 4, "c", "4"), putting(1, 5, "b", "5")},
		"deletions": {putting(1, 1, "a", "1"), deleting(1, 2, "a"), putting(1, 3, "a", "3"), deleting(1, 4, "a"), putting(1, 5, "b", "5")},
		"one key":   {putting(1, 1, "k", "1"), putting(1, 2, "k", "2"), swapping(1, 3, "k", "2", "3"), deleting(1, 4, "k"), putting(1, 5, "k", "")},
		"again":     {putting(1, 1, "a", "1"), putting(1, 1, "a", "2"), getting(1, 2, "a"), deleting(1, 3, "a"), putting(1, 1, "a", "1")},
	} {
		for _, plan := range everyPlan(5) {
			what := fmt.Sprint(name, " ", plan)
			e := wantMap(t, what, l, plan)
			if changes, _ := changesByHand(l); e.Seq != len(changes) {
				t.Errorf("%s: Seq is %d, want %d", what, e.Seq, len(changes))
			}
			checkBuild(t, what, l, plan)
		}
	}
}

// Drawn rows of commands with drawn plans, each row with several.
func TestTheMapIsTheSameWithDrawnPlans(t *testing.T) {
	deepest := make(chan int, 2000)
	t.Run("all", func(t *testing.T) {
		for part := range 8 {
			t.Run(fmt.Sprint(part), func(t *testing.T) {
				t.Parallel()
				for seed := part; seed < 120; seed += 8 {
					d := dealingOf(seed)
					l := d.aClient(d.below(101), 1+d.below(5))
					if seed%3 == 0 {
						l = d.commands(d.below(101), 1+d.below(14), 1+d.below(100))
					}
					for i := range 5 {
						plan := d.plans(len(l))
						what := fmt.Sprint("seed ", seed, ", plan ", i)
						e := wantMap(t, what, l, plan)
						checkBuild(t, what, l, plan)
						deepest <- deepestOf(e)
					}
				}
			})
		}
	})
	close(deepest)
	var reached [4]int
	for level := range deepest {
		reached[level]++
	}
	if reached[1] < 20 || reached[2] < 200 {
		t.Errorf("levels that are reached: %v, too few", reached)
	}
}

// deepestOf is the greatest level of an engine's tables.
func deepestOf(e impl.Engine) int {
	level := 0
	for _, m := range e.Version.Metas {
		level = max(level, m.Level)
	}
	return level
}

// Plans of one kind, and nearly so, of rows as long as there may be.
func TestTheMapIsTheSameWithPlansOfOneKind(t *testing.T) {
	for seed := range 6 {
		d := dealingOf(seed)
		l := d.aClient(100, 3)
		if changes, _ := changesByHand(l); len(changes) > 90 {
			t.Fatalf("seed %d: %d changes", seed, len(changes))
		}
		for number := range 4 {
			wantMap(t, fmt.Sprint("all ", number), l, allPlanned(l, number))
			plan := allPlanned(l, number)
			for i := range plan {
				if i%7 == 3 {
					plan[i] = impl.PlanFlush
				}
			}
			wantMap(t, fmt.Sprint("most ", number), l, plan)
			checkBuild(t, fmt.Sprint("most ", number), l, plan)
		}
	}
}

// From the log to another place: what a node has committed is built, flushed, carried over in chunks, and is still the node's map.
func TestTheMapOfANodeCarriedOver(t *testing.T) {
	carried := 0
	for seed := range 40 {
		d := dealingOf(seed)
		c := servedBy(d.served(60, 4, 30))
		var l []impl.Command
		for _, e := range c.Nodes[0].Log {
			if x, ok := impl.ReadCommand(e.Data); ok {
				l = append(l, x)
			}
		}
		s, _ := impl.StateOfNode(c, 0)
		e, ok := impl.BuildEngine(l, d.plans(len(l)))
		if !ok {
			t.Fatalf("seed %d: no engine is built", seed)
		}
		wantCellsOf(t, fmt.Sprint("seed ", seed), e, s.Cells...)
		if flushed, ok := impl.FlushEngine(e); ok {
			e = flushed
		}
		moved, ok := impl.MoveState(e, d.shuffled(twice(allBelow(150))))
		if !ok {
			continue
		}
		carried++
		if !sameEngine(moved, e) {
			t.Errorf("seed %d: %s came over as %s", seed, briefly(e), briefly(moved))
		}
		wantCellsOf(t, fmt.Sprint("seed ", seed, ", carried over"), moved, s.Cells...)
	}
	if carried < 30 {
		t.Errorf("%d came over: too few", carried)
	}
}
