package tests

import (
	"fmt"
	"math"
	"reflect"
	"slices"
	"sync"
	"testing"

	"loop.example/g00224/impl"
)

// behindCell and behindSession would do behind all others.
func behindCell() impl.Pair {
	return pair(repeated(0xff, 16), "behind")
}

func behindSession() impl.Session {
	return heard(99, 7, impl.ReplyOk, "behind")
}

// roomyState copies a state into lists with something behind their lengths that would do there.
func roomyState(s impl.KvState) impl.KvState {
	return impl.KvState{Cells: roomy(s.Cells, behindCell()), Sessions: roomy(s.Sessions, behindSession())}
}

func untouchedState(got impl.KvState, s impl.KvState) bool {
	made := roomyState(s)
	return sameState(got, s) && slices.Equal(whole(got.Cells), whole(made.Cells)) && slices.Equal(whole(got.Sessions), whole(made.Sessions))
}

func scribbleState(s impl.KvState) {
	fill(whole(s.Cells), pair("scribble", "scribble"))
	fill(whole(s.Sessions), heard(77, 77, impl.ReplyBad, "scribble"))
}

// A stateMade is all that one call makes: any of it may be empty.
type stateMade struct {
	State   impl.KvState
	Replies []impl.Reply
	Reply   impl.Reply
	Session impl.Session
	Value   string
	Ok      bool
}

func sameStateMade(a stateMade, b stateMade) bool {
	return sameState(a.State, b.State) && slices.Equal(a.Replies, b.Replies) && a.Reply == b.Reply && a.Session == b.Session && a.Value == b.Value && a.Ok == b.Ok
}

func (x stateMade) scribble() {
	scribbleState(x.State)
	fill(whole(x.Replies), replied(impl.ReplyBad, "scribble"))
}

func (x stateMade) wantNothingBehind(t *testing.T, what string) {
	t.Helper()
	wantNothingBehind(t, what, x.State.Cells)
	wantNothingBehind(t, what, x.State.Sessions)
	wantNothingBehind(t, what, x.Replies)
}

// A stateCall calls the program, and does the same by the document's words.
type stateCall struct {
	name   string
	call   func(s impl.KvState) stateMade
	byHand func(s impl.KvState) stateMade
}

func stateCalls(s impl.KvState) []stateCall {
	applied := func(s impl.KvState, r impl.Reply) stateMade { return stateMade{State: s, Reply: r} }
	ofSession := func(x impl.Session, ok bool) stateMade { return stateMade{Session: x, Ok: ok} }
	ofCell := func(value string, ok bool) stateMade { return stateMade{Value: value, Ok: ok} }
	l := []stateCall{{"GoodState", func(s impl.KvState) stateMade { return stateMade{Ok: impl.GoodState(s)} }, func(s impl.KvState) stateMade { return stateMade{Ok: isStateByHand(s)} }}}
	for _, c := range someCommandsFor(s) {
		l = append(l, stateCall{"ApplyCommand " + shown(c),
			func(s impl.KvState) stateMade { return applied(impl.ApplyCommand(s, c)) },
			func(s impl.KvState) stateMade { return applied(applyByHand(s, c)) }})
	}
	for _, id := range []int{-1, 0, 1, 5, 99} {
		l = append(l, stateCall{fmt.Sprint("SessionOf ", id),
			func(s impl.KvState) stateMade { return ofSession(impl.SessionOf(s, id)) },
			func(s impl.KvState) stateMade { return ofSession(sessionByHand(s, id)) }})
	}
	for _, key := range []string{"", "b", "n20", repeated(0xff, 16)} {
		l = append(l, stateCall{"CellOf " + shown(key),
			func(s impl.KvState) stateMade { return ofCell(impl.CellOf(s, key)) },
			func(s impl.KvState) stateMade { return ofCell(cellByHand(s, key)) }})
	}
	return l
}

// someCommandsFor are some of each kind at a state, some that are not good, and some for what may lie behind the state's lists.
func someCommandsFor(s impl.KvState) []impl.Command {
	l := []impl.Command{{}, putting(-1, 1, "k", "v"), putting(1, 0, "k", "v"), getting(99, 7, "k"), getting(99, 6, "k"), putting(99, 8, behindCell().Key, "new"), getting(98, 1, behindCell().Key), deleting(98, 1, behindCell().Key)}
	for i, c := range commandsFor(s) {
		if i%7 == 0 {
			l = append(l, c)
		}
	}
	return l
}

// No two lists of an answer share memory, nor one of them with the argument.
func TestListsOfAStateShareNothing(t *testing.T) {
	for name, s := range allStates() {
		for _, c := range stateCalls(s) {
			arg := roomyState(s)
			got := c.call(arg)
			wantApart(t, name+": "+c.name, append(spansOf("the argument", reflect.ValueOf(arg)), spansOf("the answer", reflect.ValueOf(got))...))
		}
	}
}

// No state is written into, nothing behind its lists is read, and nothing of it is kept: what was answered stays when it is written over.
func TestNothingOfAStateIsWrittenIntoOrKept(t *testing.T) {
	for name, s := range allStates() {
		for _, c := range stateCalls(s) {
			arg := roomyState(s)
			got := c.call(arg)
			if !untouchedState(arg, s) {
				t.Errorf("%s: %s writes into the state", name, c.name)
			}
			scribbleState(arg)
			if want := c.byHand(s); !sameStateMade(got, want) {
				t.Errorf("%s: %s: %s, want %s", name, c.name, shown(got), shown(want))
			}
		}
	}
}

// What was answered may be written into: neither the state nor a later answer changes.
func TestWhatIsMadeOfAStateMayBeWrittenInto(t *testing.T) {
	for name, s := range allStates() {
		arg := copiedState(s)
		for _, c := range stateCalls(s) {
			want := c.byHand(s)
			for range 2 {
				got := c.call(arg)
				if !sameStateMade(got, want) {
					t.Errorf("%s: %s: %s, want %s", name, c.name, shown(got), shown(want))
				}
				got.wantNothingBehind(t, name+": "+c.name)
				got.scribble()
			}
			if !sameState(arg, s) {
				t.Fatalf("%s: the state is changed with what %s answered", name, c.name)
			}
		}
	}
}

// rowsOfCommands are lists of commands, as said and not.
func rowsOfCommands() map[string][]impl.Command {
	l := map[string][]impl.Command{
		"none":      nil,
		"one":       {putting(1, 1, "k", "v")},
		"the zero":  {{}},
		"each Op":   everyOp(),
		"101":       dealingOf(1).commands(101, 5, 50),
		"just 100":  dealingOf(2).commands(100, 5, 50),
		"not good":  {putting(-1, 1, "k", "v"), putting(1, 1, "k", "v"), getting(1, 2, "")},
		"all alike": slices.Repeat([]impl.Command{putting(1, 1, "k", "v")}, 50),
	}
	for seed := range 20 {
		l[fmt.Sprint("drawn ", seed)] = dealingOf(seed).commands(5*seed, 14, 20)
	}
	return l
}

// No commands are written into or kept, nothing behind them is read, and no answer shares memory.
func TestNothingOfCommandsIsWrittenIntoOrKept(t *testing.T) {
	fold := func(l []impl.Command) stateMade {
		s, r, ok := impl.FoldCommands(l)
		return stateMade{State: s, Replies: r, Ok: ok}
	}
	behind := putting(98, 9, "behind", "behind")
	for name, l := range rowsOfCommands() {
		s, r, is := foldByHand(l)
		want := stateMade{State: s, Replies: r, Ok: is}
		arg := roomy(l, behind)
		got := fold(arg)
		if !slices.Equal(whole(arg), whole(roomy(l, behind))) {
			t.Errorf("%s: FoldCommands writes into the commands", name)
		}
		wantApart(t, name, append(spansOf("the argument", reflect.ValueOf(arg)), spansOf("the answer", reflect.ValueOf(got))...))
		fill(whole(arg), putting(1, 1, "scribble", "scribble"))
		if !sameStateMade(got, want) {
			t.Errorf("%s: %s, want %s", name, shown(got), shown(want))
		}
		got.wantNothingBehind(t, name)
		got.scribble()
		for range 2 {
			if again := fold(l); !sameStateMade(again, want) {
				t.Errorf("%s again: %s, want %s", name, shown(again), shown(want))
			}
		}
	}
}

// Several states may lie in one memory: each is read as its own, and what lies behind it stays.
func TestStatesThatLieInEachOther(t *testing.T) {
	full := numberedState(6, 6)
	kept := copiedState(full)
	for from := range 7 {
		for to := from; to <= 6; to++ {
			s := impl.KvState{Cells: full.Cells[from:to], Sessions: full.Sessions[from:to]}
			for i, c := range commandsFor(full) {
				if i%3 > 0 {
					continue
				}
				checkApply(t, "in each other", s, c)
				got, _ := impl.ApplyCommand(s, c)
				scribbleState(got)
				if !sameState(full, kept) {
					t.Fatalf("%d to %d: what they lie in is written into", from, to)
				}
			}
			for i := range 13 {
				checkSessionOf(t, "in each other", s, i)
				checkCellOf(t, "in each other", s, numbered(i))
			}
		}
	}
}

// What was answered ahead stays as it was, whatever is asked for later.
func TestStatesThatWereAnsweredStay(t *testing.T) {
	for seed := range 40 {
		d := dealingOf(seed)
		s := d.kvState(seed)
		row, kept := []impl.KvState{s}, []impl.KvState{copiedState(s)}
		l := d.commands(60, 14, 20)
		folded, replies, _ := impl.FoldCommands(l)
		for _, c := range l {
			from := row[d.below(len(row))]
			next, _ := impl.ApplyCommand(from, c)
			row, kept = append(row, next), append(kept, copiedState(next))
			impl.SessionOf(next, 1)
			impl.CellOf(next, "a")
			impl.FoldCommands(l[:d.below(60)])
		}
		for i := range row {
			if !sameState(row[i], kept[i]) {
				t.Errorf("drawn %d: answer %d is changed by a later call", seed, i)
			}
		}
		if want, told, _ := foldByHand(l); !sameState(folded, want) || !slices.Equal(replies, told) {
			t.Errorf("drawn %d: what was folded is changed by a later call", seed)
		}
	}
}

// Each wrong beside all else right or wrong: no call fails to answer.
func TestStatesAtAnyArguments(t *testing.T) {
	numbers := []int{math.MinInt, -1, 0, 1, 4, 5, 99, 100, 1000000, 1000001, math.MaxInt}
	texts := []string{"", "k", sized(16), sized(17), sized(40), sized(41)}
	for _, x := range numbers {
		for _, y := range numbers {
			for _, text := range texts {
				c := impl.Command{Session: x, N: y, Op: impl.CmdPut, Key: "k", Value: text}
				odd := impl.Command{Session: 1, N: x, Op: y, Key: text, Value: text, Old: text}
				states := []impl.KvState{{}, fairState(), {Sessions: []impl.Session{heard(x, y, 0, text)}}, {Sessions: []impl.Session{heard(1, x, y, text)}},
					{Cells: []impl.Pair{pair(text, "v")}, Sessions: []impl.Session{heard(x, 1, 0, ""), heard(y, 1, 0, "")}}}
				checkCommand(t, "any", c)
				checkCommand(t, "any", odd)
				checkFold(t, "any", []impl.Command{c, odd, c, getting(1, 1, "k")})
				for _, s := range states {
					checkGoodState(t, "any", s, isStateByHand(s))
					checkApply(t, "any", s, c)
					checkApply(t, "any", s, odd)
					checkSessionOf(t, "any", s, x)
					checkCellOf(t, "any", s, text)
				}
			}
		}
	}
}

// Calls at the same time do not meet.
func TestStatesAnswerAlikeEachTime(t *testing.T) {
	for name, s := range allStates() {
		for _, c := range stateCalls(s) {
			first := c.call(s)
			if got := c.call(s); !sameStateMade(got, first) {
				t.Errorf("%s: %s: %s, and then %s", name, c.name, shown(first), shown(got))
			}
		}
	}
	for _, c := range manyCommands()[:100] {
		first, _ := impl.CommandBytes(c)
		for range 3 {
			if again, ok := impl.CommandBytes(c); !ok || again != first {
				t.Errorf("CommandBytes: %q, and then %q", first, again)
			}
		}
	}
	l := dealingOf(5).commands(100, 14, 30)
	want, replies, _ := foldByHand(l)
	faults := make([]string, 8)
	var all sync.WaitGroup
	for i := range faults {
		all.Go(func() {
			for range 50 {
				if s, r, ok := impl.FoldCommands(l); !ok || !sameState(s, want) || !slices.Equal(r, replies) {
					faults[i] = fmt.Sprint(shown(s), shown(r), ok)
				}
				if s, r := impl.ApplyCommand(want, l[0]); !sameState(s, want) || r.Code != impl.ReplyStale && r != replies[0] {
					faults[i] = fmt.Sprint(shown(s), shown(r))
				}
			}
		})
	}
	all.Wait()
	for _, fault := range faults {
		if fault != "" {
			t.Errorf("beside others: %s", fault)
		}
	}
}
