package tests

import (
	"fmt"
	"math"
	"slices"
	"testing"

	"loop.example/g00224/impl"
)

func TestNumbersOfPlans(t *testing.T) {
	if impl.PlanNone != 0 || impl.PlanFlush != 1 || impl.PlanCompact != 2 || impl.PlanDeeper != 3 {
		t.Error("the plan numbers are others")
	}
}

// What is submitted lies behind all with the Term of who leads; its index is the last one, and nothing else is changed.
func TestWhatIsSubmittedLiesBehindAll(t *testing.T) {
	c := withLeads(withNet(servedThree(), netOf(60)...), 1000)
	x := swapping(7, 300, "key", "old", "new")
	got, index, ok := impl.SubmitCommand(c, 0, x)
	if !ok || index != 11 {
		t.Fatalf("SubmitCommand: %d %v, want 11", index, ok)
	}
	want := copiedCluster(c)
	want.Nodes[0].Log = append(want.Nodes[0].Log, impl.Entry{Term: 3, Data: "\x07\xac\x02\x04\x03key\x03new\x03old"})
	want.Nodes[0].Match[0] = 11
	wantCluster(t, "SubmitCommand", got, ok, want)
	checkSubmit(t, "three", c, 0, x)
}

// Of one peer alone what is submitted is committed at once, of several it is when most have it.
func TestWhenWhatIsSubmittedIsCommitted(t *testing.T) {
	c := servedBy(nil)
	for i := range 5 {
		c = wantSubmitted(t, "one alone", c, 0, putting(1, i+1, "k", fmt.Sprint(i)), i+1)
		if c.Nodes[0].Commit != i+1 {
			t.Errorf("%d of %d are committed", c.Nodes[0].Commit, i+1)
		}
	}
	c = wantSubmitted(t, "three", servedThree(), 0, putting(1, 9, "k", "v"), 11)
	if c.Nodes[0].Commit != 9 {
		t.Errorf("%d are committed, want 9", c.Nodes[0].Commit)
	}
}

// The entry's bytes are those of the command, and it is read from them again.
func TestTheBytesOfWhatIsSubmitted(t *testing.T) {
	for i, x := range manyCommands() {
		if len(textByHand(x)) > 100 {
			continue
		}
		got, index, ok := impl.SubmitCommand(servedBy(servedLog()), 0, x)
		if !ok || index != 11 || len(got.Nodes[0].Log) != 11 {
			t.Fatalf("command %d: %d %v", i, index, ok)
		}
		e := got.Nodes[0].Log[index-1]
		if want := (impl.Entry{Term: 9, Data: textByHand(x)}); e != want {
			t.Errorf("command %d: the entry is %s, want %s", i, shown(e), shown(want))
		}
		if back, ok := impl.ReadCommand(e.Data); !ok || back != x {
			t.Errorf("command %d: %s %v comes back, want %s", i, shown(back), ok, shown(x))
		}
	}
}

// A good command may have more bytes than an entry: it is not submitted then.
func TestCommandsOfMoreBytesThanAnEntry(t *testing.T) {
	for size := 96; size <= 104; size++ {
		x := swapping(1, 1, sized(16), sized(40), sized(40))
		if size < 102 {
			x.Old = sized(40 - (102 - size))
		} else {
			x.N = map[int]int{102: 1, 103: 128, 104: 16384}[size]
		}
		if !isCommandByHand(x) || len(textByHand(x)) != size {
			t.Fatalf("a command of %d bytes has %d", size, len(textByHand(x)))
		}
		if size <= 100 {
			wantSubmitted(t, fmt.Sprint(size, " bytes"), servedThree(), 0, x, 11)
		} else {
			wantNotSubmitted(t, fmt.Sprint(size, " bytes"), servedThree(), 0, x)
		}
	}
}

func TestSubmittingToAClusterThatIsNotGood(t *testing.T) {
	for name, c := range allServices() {
		if isClusterByHand(c) {
			continue
		}
		for node := -1; node <= 8; node++ {
			wantNotSubmitted(t, name, c, node, putting(1, 1, "k", "v"))
		}
	}
}

func TestSubmittingToANodeThatIsNone(t *testing.T) {
	for _, c := range []impl.Cluster{servedThree(), servedBy(servedLog()), newCluster(1), newCluster(7)} {
		for _, node := range []int{math.MinInt, -len(c.Nodes), -1, len(c.Nodes), len(c.Nodes) + 1, math.MaxInt} {
			wantNotSubmitted(t, fmt.Sprint("node ", node), c, node, putting(1, 1, "k", "v"))
		}
	}
}

func TestSubmittingACommandThatIsNotGood(t *testing.T) {
	for name, x := range badCommands() {
		wantNotSubmitted(t, name, servedThree(), 0, x)
		wantNotSubmitted(t, name, servedBy(nil), 0, x)
	}
}

// Just who leads takes a command, also in a Term that others have left behind.
func TestSubmittingToEachRole(t *testing.T) {
	x := putting(1, 1, "k", "v")
	c := manyClusters()["all lead"]
	for node := range 3 {
		wantSubmitted(t, "all lead", c, node, x, len(c.Nodes[node].Log)+1)
	}
	c = servedThree()
	wantSubmitted(t, "leads", c, 0, x, 11)
	wantNotSubmitted(t, "follows", c, 1, x)
	wantNotSubmitted(t, "follows", c, 2, x)
	c = clusterWith(3, askingNode(1, 3, 4, servedLog(), 2, 1))
	for node := range 3 {
		wantNotSubmitted(t, "asks", c, node, x)
	}
	for node := range 7 {
		wantNotSubmitted(t, "new", newCluster(7), node, x)
	}
}

func TestSubmittingToALogThatIsFull(t *testing.T) {
	for many := 57; many <= 60; many++ {
		c := servedBy(entriesOf(many, 9, 3))
		what := fmt.Sprint(many, " entries")
		for n := many; n < 60; n++ {
			c = wantSubmitted(t, what, c, 0, putting(1, n+1, "k", "v"), n+1)
		}
		wantNotSubmitted(t, what, c, 0, putting(1, 99, "k", "v"))
	}
}

// A command is submitted whether or not it changes anything: that shows only when it is applied.
func TestSubmittingACommandAgain(t *testing.T) {
	c := servedBy(nil)
	for i, x := range []impl.Command{putting(1, 2, "k", "v"), putting(1, 2, "k", "v"), putting(1, 1, "k", "w"), getting(1, 2, "k"), deleting(2, 1, "none")} {
		c = wantSubmitted(t, "again", c, 0, x, i+1)
	}
	wantStateUpTo(t, "again", c, 0, 5, impl.KvState{Cells: []impl.Pair{pair("k", "v")}, Sessions: []impl.Session{heard(1, 2, impl.ReplyOk, ""), heard(2, 1, impl.ReplyNone, "")}})
}

func TestSubmittingToManyClusters(t *testing.T) {
	done := 0
	for name, c := range allServices() {
		for node := -1; node <= len(c.Nodes); node++ {
			for _, x := range slices.Concat(everyOp(), []impl.Command{{}, swapping(99, 1000000, sized(16), sized(40), sized(40))}) {
				if _, _, ok := checkSubmit(t, name, c, node, x); ok {
					done++
				}
			}
		}
	}
	if done < 50 {
		t.Errorf("%d are submitted: too few", done)
	}
}
