package tests

import (
	"fmt"
	"maps"
	"slices"
	"testing"

	"loop.example/g00224/impl"
)

// entered are entries of one Term with the texts of good commands.
func entered(term int, l ...impl.Command) []impl.Entry {
	var out []impl.Entry
	for _, c := range l {
		out = append(out, impl.Entry{Term: term, Data: textByHand(c)})
	}
	return out
}

// fitting are commands that have no more bytes than an entry: of those that would, Old is a short one.
func fitting(l ...impl.Command) []impl.Command {
	var out []impl.Command
	for _, c := range l {
		if len(textByHand(c)) > 100 {
			c.Old = "v"
		}
		out = append(out, c)
	}
	return out
}

// noted are entries of one Term with any texts.
func noted(term int, l ...string) []impl.Entry {
	var out []impl.Entry
	for _, s := range l {
		out = append(out, impl.Entry{Term: term, Data: s})
	}
	return out
}

// noCommands are texts that are no command's, some of them nearly.
func noCommands() []string {
	text := textByHand(putting(1, 1, "k", "no command"))
	return []string{"", "a text", text + "\x00", text[:len(text)-1], text[1:], "\x00" + text, textByHand(impl.Command{Session: 1, N: 1, Op: 5, Key: "k"}),
		textByHand(putting(100, 1, "k", "v")), textByHand(putting(1, 0, "k", "v")), textByHand(getting(1, 1, "")), sized(100)}
}

// servedLog has commands, also ones that come again and late, with texts among them that are none.
func servedLog() []impl.Entry {
	return slices.Concat(
		entered(1, putting(1, 1, "a", "x"), putting(2, 1, "b", "y")),
		noted(1, "no command"),
		entered(2, swapping(1, 2, "a", "x", "z"), putting(1, 2, "a", "other"), putting(1, 1, "a", "x"), deleting(2, 2, "b")),
		noted(2, ""),
		entered(3, getting(3, 5, "a"), getting(1, 3, "b")))
}

// servedThree has three nodes that committed more and less of one log; node 0 leads.
func servedThree() impl.Cluster {
	l := servedLog()
	return clusterWith(3, leadingNode(0, 3, 3, l, 9, 10, 9, 4), followingNode(1, 3, 3, 0, slices.Clone(l[:9]), 7), followingNode(2, 3, 3, -1, append(slices.Clone(l[:4]), noted(3, "another")...), 4))
}

// servedBy is a cluster of one node that leads and has committed all.
func servedBy(l []impl.Entry) impl.Cluster {
	return clusterWith(1, leadingNode(0, 1, 9, l, len(l), len(l)))
}

func (d *dealing) noCommand() string {
	l := noCommands()
	return l[d.below(len(l))]
}

// served is a log of commands of few sessions and numbers, with some texts among them that are none.
func (d *dealing) served(many int, sessions int, numbers int) []impl.Entry {
	var l []impl.Entry
	term := 1
	for range many {
		term = min(9, term+d.below(6)/5)
		if d.below(5) == 0 {
			l = append(l, noted(term, d.noCommand())...)
		} else {
			l = append(l, entered(term, fitting(d.command(sessions, numbers))...)...)
		}
	}
	return l
}

// servedClusters are good, with commands in their logs.
func servedClusters() map[string]impl.Cluster {
	var puts, sessions []impl.Command
	for i := range 60 {
		puts = append(puts, putting(1, i+1, numbered(i), "v"))
		sessions = append(sessions, putting(i, 1, "k", fmt.Sprint("of ", i)))
	}
	l := map[string]impl.Cluster{
		"three":                 servedThree(),
		"nothing":               servedBy(nil),
		"one command":           servedBy(entered(1, putting(1, 1, "k", "v"))),
		"no command":            servedBy(noted(1, "text")),
		"no commands":           servedBy(noted(1, noCommands()...)),
		"each Op":               servedBy(entered(2, everyOp()...)),
		"more than 40 cells":    servedBy(entered(1, puts...)),
		"more than 12 sessions": servedBy(entered(1, sessions...)),
		"committed nothing":     clusterWith(2, followingNode(0, 2, 5, -1, servedLog(), 0), followingNode(1, 2, 5, -1, servedLog(), 1)),
		"unlike":                clusterWith(2, followingNode(0, 2, 5, -1, entered(1, putting(1, 1, "a", "0")), 1), followingNode(1, 2, 5, -1, entered(1, putting(1, 1, "a", "1")), 1)),
	}
	for seed := range 10 {
		d := dealingOf(seed)
		log := d.served(6*seed+6, 1+d.below(4), 1+d.below(20))
		short := slices.Clone(log[:d.below(len(log)+1)])
		l[fmt.Sprint("drawn ", seed)] = clusterWith(3, leadingNode(0, 3, 9, log, d.below(len(log)+1), len(log), 0, 0), followingNode(2, 3, 9, -1, short, d.below(len(short)+1)))
	}
	return l
}

// allServices are clusters, good and not, with commands in their logs and without.
func allServices() map[string]impl.Cluster {
	l := servedClusters()
	for name, c := range allClusters() {
		l["other: "+name] = c
	}
	for name, c := range map[string]func(c *impl.Cluster){
		"another node's Id": func(c *impl.Cluster) { c.Nodes[1].Id = 0 },
		"a wrong message":   func(c *impl.Cluster) { c.Net = []impl.RaftMsg{{}} },
		"a wrong lead":      func(c *impl.Cluster) { c.Leads = []impl.Lead{{}} },
		"a wrong node":      func(c *impl.Cluster) { c.Nodes[2].Commit = 6 },
		"a node too many":   func(c *impl.Cluster) { c.Nodes = append(c.Nodes, impl.RaftNode{Id: 3, Peers: 3, Vote: -1}) },
	} {
		l["served, bad: "+name] = changedCluster(servedThree(), c)
	}
	return l
}

// What follows does by the document's words, without the program's functions, what the service does.

func submitByHand(c impl.Cluster, node int, x impl.Command) (impl.Cluster, int, bool) {
	text, is := commandBytesByHand(x)
	if !is || !isClusterByHand(c) || !isWithin(node, 0, len(c.Nodes)-1) {
		return impl.Cluster{}, 0, false
	}
	n, index, ok := proposeByHand(c.Nodes[node], text)
	if !ok {
		return impl.Cluster{}, 0, false
	}
	out := copiedCluster(c)
	out.Nodes[node] = n
	return out, index, true
}

// repliesByHand goes through a log; of what is no command there is no reply.
func repliesByHand(l []impl.Entry) (store, []*impl.Reply) {
	x := storeByHand(impl.KvState{})
	var replies []*impl.Reply
	for _, e := range l {
		var told *impl.Reply
		if c, ok := readCommandByHand(e.Data); ok {
			r := x.applied(c)
			told = &r
		}
		replies = append(replies, told)
	}
	return x, replies
}

func hasCommittedByHand(c impl.Cluster, node int, index int) bool {
	return isClusterByHand(c) && isWithin(node, 0, len(c.Nodes)-1) && isWithin(index, 0, c.Nodes[node].Commit)
}

func stateUpToByHand(c impl.Cluster, node int, index int) (impl.KvState, bool) {
	if !hasCommittedByHand(c, node, index) {
		return impl.KvState{}, false
	}
	x, _ := repliesByHand(c.Nodes[node].Log[:index])
	return x.state(), true
}

func stateOfNodeByHand(c impl.Cluster, node int) (impl.KvState, bool) {
	if !hasCommittedByHand(c, node, 0) {
		return impl.KvState{}, false
	}
	return stateUpToByHand(c, node, c.Nodes[node].Commit)
}

func replyAtByHand(c impl.Cluster, node int, index int) (impl.Reply, bool) {
	if index == 0 || !hasCommittedByHand(c, node, index) {
		return impl.Reply{}, false
	}
	_, replies := repliesByHand(c.Nodes[node].Log[:index])
	if told := replies[index-1]; told != nil {
		return *told, true
	}
	return impl.Reply{}, false
}

// A changed is what one command of a row did to the map.
type changed struct {
	number int
	write  impl.Write
}

func rowChangesByHand(l []impl.Command) []changed {
	x := storeByHand(impl.KvState{})
	var out []changed
	for i, c := range l {
		ahead := maps.Clone(x.cells)
		x.applied(c)
		for key, value := range x.cells {
			if had, there := ahead[key]; !there || had != value {
				out = append(out, changed{i, setTo(key, value)})
			}
		}
		for key := range ahead {
			if _, there := x.cells[key]; !there {
				out = append(out, changed{i, unset(key)})
			}
		}
	}
	return out
}

func changesByHand(l []impl.Command) ([]int, bool) {
	if len(l) > 100 {
		return nil, false
	}
	var numbers []int
	for _, x := range rowChangesByHand(l) {
		numbers = append(numbers, x.number)
	}
	return numbers, true
}

// orAsItWas is what a step leaves that does nothing where it tells false.
func (k kept) orAsItWas(next kept, ok bool) kept {
	if !ok {
		return k
	}
	return next
}

func (k kept) plannedByHand(plan int) kept {
	switch plan {
	case 1:
		return k.orAsItWas(k.flushed())
	case 2:
		return k.orAsItWas(k.compacted(0, k.seq))
	case 3:
		return k.orAsItWas(k.compacted(1, k.seq))
	}
	return k
}

func buildByHand(l []impl.Command, plan []int) (kept, bool) {
	if len(l) > 100 || len(plan) != len(l) {
		return kept{}, false
	}
	k := newKept()
	for _, x := range rowChangesByHand(l) {
		next, ok := k.written(x.write)
		if !ok {
			next, ok = k.orAsItWas(k.flushed()).written(x.write)
		}
		if !ok {
			return kept{}, false
		}
		k = next.plannedByHand(plan[x.number])
	}
	return k, true
}

// isMovedByHand tells whether an engine comes over; it is the same then.
func (k kept) isMovedByHand(order []int) bool {
	texts, ok := k.checkpoint()
	if !ok {
		return false
	}
	told, _, _ := playTakingByHand(texts, order, unturned(len(order)))
	return len(told) > 0
}

// What follows asks the program.

// checkSubmit holds SubmitCommand against the document's words; it answers the cluster, as it was where SubmitCommand tells false.
func checkSubmit(t *testing.T, what string, c impl.Cluster, node int, x impl.Command) (impl.Cluster, int, bool) {
	t.Helper()
	what = fmt.Sprintf("%s: SubmitCommand to %d of %s", what, node, shown(x))
	want, at, is := submitByHand(c, node, x)
	got, index, ok := impl.SubmitCommand(c, node, x)
	if index != at {
		t.Errorf("%s: the index is %d, want %d", what, index, at)
	}
	if !is {
		wantNoCluster(t, what, got, ok)
		return c, 0, false
	}
	wantCluster(t, what, got, ok, want)
	return got, index, ok
}

func wantSubmitted(t *testing.T, what string, c impl.Cluster, node int, x impl.Command, index int) impl.Cluster {
	t.Helper()
	got, at, ok := checkSubmit(t, what, c, node, x)
	if !ok || at != index {
		t.Errorf("%s: SubmitCommand to %d of %s: %d %v, want %d", what, node, shown(x), at, ok, index)
	}
	return got
}

func wantNotSubmitted(t *testing.T, what string, c impl.Cluster, node int, x impl.Command) {
	t.Helper()
	got, index, ok := impl.SubmitCommand(c, node, x)
	wantNoCluster(t, what+": SubmitCommand", got, ok)
	if index != 0 {
		t.Errorf("%s: SubmitCommand: the index is %d, want 0", what, index)
	}
	checkSubmit(t, what, c, node, x)
}

func wantStateUpTo(t *testing.T, what string, c impl.Cluster, node int, index int, want impl.KvState) {
	t.Helper()
	what = fmt.Sprintf("%s: StateUpTo %d %d", what, node, index)
	got, ok := impl.StateUpTo(c, node, index)
	if !ok {
		t.Errorf("%s: false", what)
	}
	wantState(t, what, got, want)
}

func wantNoStateUpTo(t *testing.T, what string, c impl.Cluster, node int, index int) {
	t.Helper()
	if got, ok := impl.StateUpTo(c, node, index); ok || !sameState(got, impl.KvState{}) {
		t.Errorf("%s: StateUpTo %d %d: %s %v, want nothing", what, node, index, shown(got), ok)
	}
}

func wantReplyAt(t *testing.T, what string, c impl.Cluster, node int, index int, want impl.Reply) {
	t.Helper()
	if got, ok := impl.ReplyAt(c, node, index); !ok || got != want {
		t.Errorf("%s: ReplyAt %d %d: %s %v, want %s", what, node, index, shown(got), ok, shown(want))
	}
}

func wantNoReplyAt(t *testing.T, what string, c impl.Cluster, node int, index int) {
	t.Helper()
	if got, ok := impl.ReplyAt(c, node, index); ok || got != (impl.Reply{}) {
		t.Errorf("%s: ReplyAt %d %d: %s %v, want nothing", what, node, index, shown(got), ok)
	}
}

// checkStateAt holds what may be asked of a node at an index against the document's words.
func checkStateAt(t *testing.T, what string, c impl.Cluster, node int, index int) {
	t.Helper()
	if want, is := stateUpToByHand(c, node, index); is {
		wantStateUpTo(t, what, c, node, index, want)
	} else {
		wantNoStateUpTo(t, what, c, node, index)
	}
	if want, is := replyAtByHand(c, node, index); is {
		wantReplyAt(t, what, c, node, index, want)
	} else {
		wantNoReplyAt(t, what, c, node, index)
	}
}

func checkStateOfNode(t *testing.T, what string, c impl.Cluster, node int) {
	t.Helper()
	want, is := stateOfNodeByHand(c, node)
	got, ok := impl.StateOfNode(c, node)
	what = fmt.Sprintf("%s: StateOfNode %d", what, node)
	if ok != is {
		t.Errorf("%s: %v", what, ok)
	}
	wantState(t, what, got, want)
}

func checkChanges(t *testing.T, what string, l []impl.Command) []int {
	t.Helper()
	want, is := changesByHand(l)
	got, ok := impl.ChangesOf(l)
	if ok != is || !slices.Equal(got, want) {
		t.Errorf("%s: ChangesOf: %v %v, want %v %v", what, got, ok, want, is)
	}
	wantNothingBehind(t, what+": ChangesOf", got)
	return got
}

func wantChanges(t *testing.T, what string, l []impl.Command, want ...int) {
	t.Helper()
	if got, ok := impl.ChangesOf(l); !ok || !slices.Equal(got, want) {
		t.Errorf("%s: ChangesOf: %v %v, want %v", what, got, ok, want)
	}
	checkChanges(t, what, l)
}

// checkBuild holds BuildEngine against the document's words, and answers whether an engine is built.
func checkBuild(t *testing.T, what string, l []impl.Command, plan []int) bool {
	t.Helper()
	want, is := buildByHand(l, plan)
	got, ok := impl.BuildEngine(l, plan)
	if !is {
		wantNoEngine(t, what+": BuildEngine", got, ok)
		return false
	}
	wantEngine(t, what+": BuildEngine", got, ok, want)
	wantNothingBehindEngine(t, what+": BuildEngine", got)
	return ok
}

// wantMap asks that an engine is built and has the map to which the commands come.
func wantMap(t *testing.T, what string, l []impl.Command, plan []int) impl.Engine {
	t.Helper()
	e, ok := impl.BuildEngine(l, plan)
	cells, is := impl.CellsOf(e)
	s, _, _ := impl.FoldCommands(l)
	if !ok || !is || !slices.Equal(cells, s.Cells) {
		t.Errorf("%s: plan %v: %v %v %s, want %s", what, plan, ok, is, shown(cells), shown(s.Cells))
	}
	return e
}

func wantBuilt(t *testing.T, what string, l []impl.Command, plan []int, want kept) {
	t.Helper()
	got, ok := impl.BuildEngine(l, plan)
	wantEngine(t, what+": BuildEngine", got, ok, want)
	checkBuild(t, what, l, plan)
	wantMap(t, what, l, plan)
}

func wantNotBuilt(t *testing.T, what string, l []impl.Command, plan []int) {
	t.Helper()
	got, ok := impl.BuildEngine(l, plan)
	wantNoEngine(t, what+": BuildEngine", got, ok)
	checkBuild(t, what, l, plan)
}

func wantCellsOf(t *testing.T, what string, e impl.Engine, want ...impl.Pair) {
	t.Helper()
	got, ok := impl.CellsOf(e)
	if !ok || !slices.Equal(got, want) {
		t.Errorf("%s: CellsOf: %s %v, want %s", what, shown(got), ok, shown(want))
	}
	wantNothingBehind(t, what+": CellsOf", got)
}

func wantNoCellsOf(t *testing.T, what string, e impl.Engine) {
	t.Helper()
	if got, ok := impl.CellsOf(e); ok || len(got) != 0 {
		t.Errorf("%s: CellsOf: %s %v, want nothing", what, shown(got), ok)
	}
}

func wantMoved(t *testing.T, what string, k kept, order []int) {
	t.Helper()
	if !k.isMovedByHand(order) {
		t.Errorf("%s: the test itself is wrong", what)
	}
	e := k.engine()
	got, ok := impl.MoveState(e, order)
	wantEngine(t, what+": MoveState", got, ok, k)
	wantItems(t, what+": MoveState", got, k.all())
	wantNothingBehindEngine(t, what+": MoveState", got)
}

func wantNotMoved(t *testing.T, what string, k kept, order []int) {
	t.Helper()
	if k.isMovedByHand(order) {
		t.Errorf("%s: the test itself is wrong", what)
	}
	got, ok := impl.MoveState(k.engine(), order)
	wantNoEngine(t, what+": MoveState", got, ok)
}

// checkMove holds MoveState against the document's words, and answers whether the engine came over.
func checkMove(t *testing.T, what string, k kept, order []int) bool {
	t.Helper()
	if k.isMovedByHand(order) {
		wantMoved(t, what, k, order)
		return true
	}
	wantNotMoved(t, what, k, order)
	return false
}

// chunksIn is how many chunks an engine is sent in, -1 where it is not sent at all.
func (k kept) chunksIn() int {
	texts, ok := k.checkpoint()
	l, is := chunksByHand(texts)
	if !ok || !is {
		return -1
	}
	return len(l)
}

// allPlanned is one plan number for each command of a row.
func allPlanned(l []impl.Command, plan int) []int {
	return slices.Repeat([]int{plan}, len(l))
}

func (d *dealing) plans(many int) []int {
	var l []int
	for range many {
		l = append(l, d.below(4))
	}
	return l
}
