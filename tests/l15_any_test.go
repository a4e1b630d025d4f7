package tests

import (
	"fmt"
	"math"
	"reflect"
	"slices"
	"sync"
	"testing"

	"loop.example/g00224/impl"
)

// A serviceMade is all that one call makes: any of it may be empty.
type serviceMade struct {
	Cluster impl.Cluster
	State   impl.KvState
	Engine  impl.Engine
	Cells   []impl.Pair
	Numbers []int
	Index   int
	Reply   impl.Reply
	Ok      bool
}

func sameServiceMade(a serviceMade, b serviceMade) bool {
	return sameCluster(a.Cluster, b.Cluster) && sameState(a.State, b.State) && sameEngine(a.Engine, b.Engine) && slices.Equal(a.Cells, b.Cells) &&
		slices.Equal(a.Numbers, b.Numbers) && a.Index == b.Index && a.Reply == b.Reply && a.Ok == b.Ok
}

func (x serviceMade) scribble() {
	scribbleCluster(x.Cluster)
	scribbleState(x.State)
	scribbleEngine(x.Engine)
	fill(whole(x.Cells), pair("scribble", "scribble"))
	fill(whole(x.Numbers), 77)
}

func (x serviceMade) wantNothingBehind(t *testing.T, what string) {
	t.Helper()
	wantNothingBehindCluster(t, what, x.Cluster)
	wantNothingBehind(t, what, x.State.Cells)
	wantNothingBehind(t, what, x.State.Sessions)
	wantNothingBehindEngine(t, what, x.Engine)
	wantNothingBehind(t, what, x.Cells)
	wantNothingBehind(t, what, x.Numbers)
}

func submitMade(c impl.Cluster, index int, ok bool) serviceMade {
	return serviceMade{Cluster: c, Index: index, Ok: ok}
}

func stateMadeOf(s impl.KvState, ok bool) serviceMade {
	return serviceMade{State: s, Ok: ok}
}

func replyMade(r impl.Reply, ok bool) serviceMade {
	return serviceMade{Reply: r, Ok: ok}
}

func engineMadeOf(e impl.Engine, ok bool) serviceMade {
	return serviceMade{Engine: e, Ok: ok}
}

func keptMade(k kept, ok bool) serviceMade {
	if !ok {
		return serviceMade{}
	}
	return serviceMade{Engine: k.engine(), Ok: true}
}

func cellsMade(l []impl.Pair, ok bool) serviceMade {
	return serviceMade{Cells: l, Ok: ok}
}

func numbersMade(l []int, ok bool) serviceMade {
	return serviceMade{Numbers: l, Ok: ok}
}

// A servedCall calls the program with a cluster, and does the same by the document's words.
type servedCall struct {
	name   string
	call   func(c impl.Cluster) serviceMade
	byHand func(c impl.Cluster) serviceMade
}

func servedCalls(c impl.Cluster) []servedCall {
	var l []servedCall
	for node := -1; node <= min(len(c.Nodes), 3); node++ {
		l = append(l, servedCall{fmt.Sprint("StateOfNode ", node),
			func(c impl.Cluster) serviceMade { return stateMadeOf(impl.StateOfNode(c, node)) },
			func(c impl.Cluster) serviceMade { return stateMadeOf(stateOfNodeByHand(c, node)) }})
		for _, x := range []impl.Command{putting(1, 7, "k", "v"), getting(99, 1000000, sized(16)), {}} {
			l = append(l, servedCall{fmt.Sprint("SubmitCommand ", node, " ", shown(x)),
				func(c impl.Cluster) serviceMade { return submitMade(impl.SubmitCommand(c, node, x)) },
				func(c impl.Cluster) serviceMade { return submitMade(submitByHand(c, node, x)) }})
		}
		for _, index := range []int{-1, 0, 1, 4, 7, 60} {
			l = append(l,
				servedCall{fmt.Sprint("StateUpTo ", node, " ", index),
					func(c impl.Cluster) serviceMade { return stateMadeOf(impl.StateUpTo(c, node, index)) },
					func(c impl.Cluster) serviceMade { return stateMadeOf(stateUpToByHand(c, node, index)) }},
				servedCall{fmt.Sprint("ReplyAt ", node, " ", index),
					func(c impl.Cluster) serviceMade { return replyMade(impl.ReplyAt(c, node, index)) },
					func(c impl.Cluster) serviceMade { return replyMade(replyAtByHand(c, node, index)) }})
		}
	}
	return l
}

// No list of an answer shares memory with another or with the cluster; no cluster is written into, and nothing behind its lists is read.
func TestNothingOfAServedClusterIsWrittenIntoOrKept(t *testing.T) {
	for name, c := range allServices() {
		if len(c.Net) > 100 || len(c.Leads) > 100 {
			continue
		}
		for _, x := range servedCalls(c) {
			what := name + ": " + x.name
			arg := roomyCluster(c)
			got := x.call(arg)
			if !untouchedCluster(arg, c) {
				t.Errorf("%s writes into the cluster", what)
			}
			wantApart(t, what, append(spansOf("the argument", reflect.ValueOf(arg)), spansOf("the answer", reflect.ValueOf(got))...))
			scribbleCluster(arg)
			if want := x.byHand(c); !sameServiceMade(got, want) {
				t.Errorf("%s: %s, want %s", what, shown(got), shown(want))
			}
		}
	}
}

// What was answered may be written into: neither the cluster nor a later answer changes.
func TestWhatIsMadeOfAServedClusterMayBeWrittenInto(t *testing.T) {
	for name, c := range servedClusters() {
		arg := copiedCluster(c)
		for _, x := range servedCalls(c) {
			want := x.byHand(c)
			for range 2 {
				got := x.call(arg)
				if !sameServiceMade(got, want) {
					t.Errorf("%s: %s: %s, want %s", name, x.name, shown(got), shown(want))
				}
				got.wantNothingBehind(t, name+": "+x.name)
				got.scribble()
			}
			if !sameCluster(arg, c) {
				t.Fatalf("%s: the cluster is changed with what %s answered", name, x.name)
			}
		}
	}
}

// No commands and no plan are written into or kept, and nothing behind them is read.
func TestNothingOfARowIsWrittenIntoOrKept(t *testing.T) {
	behind := putting(98, 9, "behind", "behind")
	for name, l := range rowsOfCommands() {
		plan := dealingOf(len(l)).plans(len(l))
		for _, x := range []struct {
			name string
			call func(l []impl.Command, plan []int) serviceMade
			want serviceMade
		}{
			{"ChangesOf", func(l []impl.Command, _ []int) serviceMade { return numbersMade(impl.ChangesOf(l)) }, numbersMade(changesByHand(l))},
			{"BuildEngine", func(l []impl.Command, plan []int) serviceMade { return engineMadeOf(impl.BuildEngine(l, plan)) }, keptMade(buildByHand(l, plan))},
		} {
			what := name + ": " + x.name
			row, numbers := roomy(l, behind), roomy(plan, impl.PlanFlush)
			got := x.call(row, numbers)
			if !slices.Equal(whole(row), whole(roomy(l, behind))) || !slices.Equal(whole(numbers), whole(roomy(plan, impl.PlanFlush))) {
				t.Errorf("%s writes into what it is given", what)
			}
			wantApart(t, what, slices.Concat(spansOf("the commands", reflect.ValueOf(row)), spansOf("the plan", reflect.ValueOf(numbers)), spansOf("the answer", reflect.ValueOf(got))))
			fill(whole(row), putting(1, 1, "scribble", "scribble"))
			fill(whole(numbers), impl.PlanCompact)
			for range 3 {
				if !sameServiceMade(got, x.want) {
					t.Errorf("%s: %s, want %s", what, shown(got), shown(x.want))
				}
				got.wantNothingBehind(t, what)
				got.scribble()
				got = x.call(l, plan)
			}
		}
	}
}

// keptOrBad are engines, good and not; only of good ones is it known what they keep.
type keptOrBad struct {
	e  impl.Engine
	k  kept
	is bool
}

func allKept() map[string]keptOrBad {
	l := map[string]keptOrBad{}
	for name, k := range manyKept() {
		l[name] = keptOrBad{k.engine(), k, true}
		l[name+", without Mem"] = keptOrBad{k.withMem().engine(), k.withMem(), true}
	}
	for name, e := range badEngines() {
		l["bad: "+name] = keptOrBad{e: e}
	}
	return l
}

// No engine and no order is written into or kept, and nothing behind them is read.
func TestNothingOfAMovedEngineIsWrittenIntoOrKept(t *testing.T) {
	for name, x := range allKept() {
		cells := serviceMade{}
		if x.is {
			cells = cellsMade(pairsByHand(x.k.all(), "", "", x.k.seq), true)
		}
		wantOfEngine(t, name+": CellsOf", x.e, nil, cells, func(e impl.Engine, _ []int) serviceMade { return cellsMade(impl.CellsOf(e)) })
		for _, order := range [][]int{nil, {0}, allBelow(200), backwards(allBelow(200)), twice(allBelow(200)), append(allBelow(400), 0)} {
			moved := keptMade(x.k, x.is && x.k.isMovedByHand(order))
			wantOfEngine(t, fmt.Sprint(name, ": MoveState of ", len(order)), x.e, order, moved, func(e impl.Engine, order []int) serviceMade { return engineMadeOf(impl.MoveState(e, order)) })
		}
	}
}

func wantOfEngine(t *testing.T, what string, e impl.Engine, order []int, want serviceMade, call func(e impl.Engine, order []int) serviceMade) {
	t.Helper()
	arg, numbers := roomyEngine(e), roomy(order, 0)
	got := call(arg, numbers)
	if !untouchedEngine(arg, e) || !slices.Equal(whole(numbers), whole(roomy(order, 0))) {
		t.Errorf("%s writes into what it is given", what)
	}
	wantApart(t, what, slices.Concat(spansOf("the engine", reflect.ValueOf(arg)), spansOf("the order", reflect.ValueOf(numbers)), spansOf("the answer", reflect.ValueOf(got))))
	scribbleEngine(arg)
	fill(whole(numbers), 1)
	for range 3 {
		if !sameServiceMade(got, want) {
			t.Errorf("%s: %s, want %s", what, shown(got), shown(want))
		}
		got.wantNothingBehind(t, what)
		got.scribble()
		got = call(e, order)
	}
}

// Several nodes may lie in one memory: each is read as its own, and what they lie in stays.
func TestServedClustersThatLieInEachOther(t *testing.T) {
	log := dealingOf(5).served(30, 3, 9)
	numbers := []int{30, 0, 20, 0, 20}
	keptLog, keptNumbers := slices.Clone(log), slices.Clone(numbers)
	c := clusterWith(3, leadingNode(0, 3, 9, log, 25, numbers[:3]...), followingNode(1, 3, 9, -1, log[:20], 20), leadingNode(2, 3, 9, log[10:30], 9, numbers[2:5]...))
	checkGoodCluster(t, "in each other", c, true)
	for node := range 3 {
		for index := range 31 {
			checkStateAt(t, "in each other", c, node, index)
		}
		checkStateOfNode(t, "in each other", c, node)
		got, _, _ := checkSubmit(t, "in each other", c, node, putting(1, 1, "k", "v"))
		if sameCluster(got, c) {
			continue
		}
		wantApart(t, "in each other", spansOf("the answer", reflect.ValueOf(got)))
		scribbleCluster(got)
	}
	if !slices.Equal(log, keptLog) || !slices.Equal(numbers, keptNumbers) {
		t.Error("what the nodes lie in is written into")
	}
}

// What was answered ahead stays as it was, whatever is asked for later.
func TestWhatAServiceAnsweredStays(t *testing.T) {
	for seed := range 10 {
		d := dealingOf(seed)
		c := servedBy(nil)
		row, keptRow := []impl.Cluster{c}, []impl.Cluster{copiedCluster(c)}
		var made, want []serviceMade
		for i := range 50 {
			from := row[d.below(len(row))]
			next, _, ok := impl.SubmitCommand(from, 0, putting(1, i+1, d.key(), d.value()))
			if !ok {
				t.Fatal("a command is not submitted")
			}
			row, keptRow = append(row, next), append(keptRow, copiedCluster(next))
			l, plan := d.aClient(20, 2), d.plans(20)
			index := d.below(len(next.Nodes[0].Log) + 1)
			made = append(made, stateMadeOf(impl.StateUpTo(next, 0, index)), numbersMade(impl.ChangesOf(l)), engineMadeOf(impl.BuildEngine(l, plan)))
			want = append(want, stateMadeOf(stateUpToByHand(keptRow[i+1], 0, index)), numbersMade(changesByHand(l)), keptMade(buildByHand(l, plan)))
		}
		for i := range row {
			if !sameCluster(row[i], keptRow[i]) {
				t.Errorf("seed %d: cluster %d is changed by a later call", seed, i)
			}
		}
		for i := range made {
			if !sameServiceMade(made[i], want[i]) {
				t.Errorf("seed %d: answer %d is %s, want %s", seed, i, shown(made[i]), shown(want[i]))
			}
		}
	}
}

// Each wrong beside all else right or wrong: no call fails to answer.
func TestServicesAtAnyArguments(t *testing.T) {
	numbers := []int{math.MinInt, -1, 0, 1, 2, 3, 4, 9, 10, 60, 61, 101, math.MaxInt}
	clusters := []impl.Cluster{{}, servedThree(), servedBy(servedLog()), newCluster(8), manyClusters()["one that is full"], changedCluster(servedThree(), func(c *impl.Cluster) { c.Nodes[0].Commit = 99 })}
	for _, x := range numbers {
		for _, y := range numbers {
			for _, c := range clusters {
				checkStateAt(t, "any", c, x, y)
				checkStateOfNode(t, "any", c, x)
				checkSubmit(t, "any", c, x, impl.Command{Session: y, N: 1, Op: 2, Key: "k"})
				checkSubmit(t, "any", c, 0, impl.Command{Session: 1, N: x, Op: y, Key: "k"})
			}
			odd := impl.Command{Session: x, N: y, Op: impl.CmdPut, Key: "k", Value: "odd"}
			l := []impl.Command{putting(1, 1, "k", "v"), odd, {Session: 1, N: 2, Op: y, Key: "k"}, odd, deleting(1, 3, "k")}
			checkChanges(t, "any", l)
			checkBuild(t, "any", l, []int{x, y, x, y, x})
			checkBuild(t, "any", l, []int{1, x, 2, y})
			checkMove(t, "any", movedThree(), []int{0, 1, 2, x, 3, y, 4, 5})
			checkMove(t, "any", movedThree(), []int{0, 1, 2, x, y, 5})
			e := changedIn(movedThree(), func(e *impl.Engine) { e.Seq, e.Version.Next = x, y })
			wantNoCellsOf(t, "any", e)
			got, ok := impl.MoveState(e, allBelow(6))
			wantNoEngine(t, "any: MoveState", got, ok)
		}
	}
}

// The same call answers the same each time, beside others too.
func TestServicesAnswerAlikeEachTime(t *testing.T) {
	for name, c := range servedClusters() {
		for _, x := range servedCalls(c) {
			first := x.call(c)
			if got := x.call(c); !sameServiceMade(got, first) {
				t.Errorf("%s: %s: %s, and then %s", name, x.name, shown(first), shown(got))
			}
		}
	}
	d := dealingOf(3)
	l, plan, c, k := d.aClient(60, 4), d.plans(60), servedThree(), movedThree()
	engine := k.engine()
	want := []serviceMade{keptMade(buildByHand(l, plan)), numbersMade(changesByHand(l)), stateMadeOf(stateOfNodeByHand(c, 0)), replyMade(replyAtByHand(c, 0, 7)), submitMade(submitByHand(c, 0, l[0])), keptMade(k, true), replyMade(impl.Reply{}, false)}
	faults := make([]string, 8)
	var all sync.WaitGroup
	for i := range faults {
		all.Go(func() {
			for range 20 {
				got := []serviceMade{engineMadeOf(impl.BuildEngine(l, plan)), numbersMade(impl.ChangesOf(l)), stateMadeOf(impl.StateOfNode(c, 0)), replyMade(impl.ReplyAt(c, 0, 7)), submitMade(impl.SubmitCommand(c, 0, l[0])), engineMadeOf(impl.MoveState(engine, allBelow(6))), replyMade(impl.ReplyAt(c, 0, 99))}
				for j := range got {
					if !sameServiceMade(got[j], want[j]) {
						faults[i] = shown(got[j])
					}
				}
			}
		})
	}
	all.Wait()
	for _, fault := range faults {
		if fault != "" {
			t.Errorf("beside others: %s", fault)
		}
	}
}
