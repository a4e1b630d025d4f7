package tests

import (
	"fmt"
	"maps"
	"math"
	"slices"
	"testing"

	"loop.example/g00224/impl"
)

func TestFoldsByHand(t *testing.T) {
	s, r := checkFold(t, "by hand", []impl.Command{
		putting(1, 1, "k", "v"),
		swapping(2, 1, "k", "v", "w"),
		putting(1, 1, "k", "v"),
		getting(1, 2, "k"),
		putting(1, 1, "k", "v"),
		swapping(2, 2, "k", "v", "x"),
		deleting(0, 9, "k"),
		deleting(0, 9, "k"),
		deleting(0, 10, "k"),
		putting(100, 1, "k", "v"),
	})
	want := []impl.Reply{replied(impl.ReplyOk, ""), replied(impl.ReplyOk, ""), replied(impl.ReplyOk, ""), replied(impl.ReplyOk, "w"), replied(impl.ReplyStale, ""),
		replied(impl.ReplyDiffers, "w"), replied(impl.ReplyOk, "w"), replied(impl.ReplyOk, "w"), replied(impl.ReplyNone, ""), replied(impl.ReplyBad, "")}
	if !slices.Equal(r, want) {
		t.Errorf("the replies are %s, want %s", shown(r), shown(want))
	}
	wantState(t, "by hand", s, impl.KvState{Sessions: []impl.Session{heard(0, 10, impl.ReplyNone, ""), heard(1, 2, impl.ReplyOk, "w"), heard(2, 2, impl.ReplyDiffers, "w")}})
}

func TestHowManyCommandsAreFolded(t *testing.T) {
	for _, many := range []int{0, 1, 2, 99, 100, 101, 102, 200, 1000} {
		for seed := range 3 {
			l := dealingOf(seed).commands(many, 5, 1000)
			s, r, ok := impl.FoldCommands(l)
			if ok != (many <= 100) {
				t.Errorf("FoldCommands of %d: %v", many, ok)
			}
			if want := many; ok && len(r) != want || !ok && (len(r) != 0 || !sameState(s, impl.KvState{})) {
				t.Errorf("FoldCommands of %d: %d replies, %s %v", many, len(r), shown(s), ok)
			}
			checkFold(t, fmt.Sprint(many), l)
		}
		checkFold(t, fmt.Sprint(many, " zero ones"), make([]impl.Command, many))
		checkFold(t, fmt.Sprint(many, " alike"), slices.Repeat([]impl.Command{putting(1, 1, "k", "v")}, many))
	}
	checkFold(t, "no list", nil)
	checkFold(t, "an empty list", []impl.Command{})
}

// A fold is ApplyCommand of each in order.
func TestAFoldIsItsCommands(t *testing.T) {
	for seed := range 100 {
		l := dealingOf(seed).commands(100, 14, 30)
		s := impl.KvState{}
		var replies []impl.Reply
		for many := range 101 {
			if many%9 == 1 || many == 100 {
				got, told, ok := impl.FoldCommands(l[:many])
				wantState(t, "up to there", got, s)
				if !ok || !slices.Equal(told, replies) {
					t.Errorf("drawn %d: of %d: %s %v, want %s", seed, many, shown(told), ok, shown(replies))
				}
			}
			if many < 100 {
				next, r := impl.ApplyCommand(s, l[many])
				s, replies = next, append(replies, r)
			}
		}
	}
}

// Commands that are not good have their place among the replies, and do nothing else.
func TestFoldsWithCommandsThatAreNotGood(t *testing.T) {
	good := dealingOf(1).aClient(20, 3)
	want, replies := checkFold(t, "good ones", good)
	for name, bad := range badCommands() {
		for place := range len(good) + 1 {
			got, told := checkFold(t, name, slices.Insert(slices.Clone(good), place, bad))
			wantState(t, name, got, want)
			if expected := slices.Insert(slices.Clone(replies), place, replied(impl.ReplyBad, "")); !slices.Equal(told, expected) {
				t.Errorf("%s in place %d: %s, want %s", name, place, shown(told), shown(expected))
			}
		}
		checkFold(t, name+" alone", []impl.Command{bad})
		checkFold(t, name+" often", slices.Repeat([]impl.Command{bad}, 100))
	}
	names := slices.Sorted(maps.Keys(badCommands()))
	for seed := range 100 {
		d := dealingOf(seed)
		l := d.commands(100, 14, 20)
		for i := range l {
			if d.below(4) == 0 {
				l[i] = badCommands()[names[d.below(len(names))]]
			}
		}
		checkFold(t, "some not good", l)
	}
}

// More keys and sessions than there may be.
func TestFoldsThatFillAState(t *testing.T) {
	var keys, sessions []impl.Command
	for i := range 100 {
		keys = append(keys, putting(i%3, 1+i/3, numbered(99-i), "v"))
		sessions = append(sessions, putting(99-i, 1, "k", fmt.Sprint(i)))
	}
	s, r := checkFold(t, "keys", keys)
	if len(s.Cells) != 40 || s.Cells[0].Key != numbered(60) || r[39].Code != impl.ReplyOk || r[40].Code != impl.ReplyBad {
		t.Errorf("100 keys: %s %s", shown(s), shown(r[38:42]))
	}
	if x, ok := impl.SessionOf(s, 0); !ok || x != heard(0, 34, impl.ReplyBad, "") {
		t.Errorf("100 keys: session 0 is %s %v", shown(x), ok)
	}
	s, r = checkFold(t, "sessions", sessions)
	if len(s.Sessions) != 12 || s.Sessions[0].Id != 88 || r[11].Code != impl.ReplyOk || r[12].Code != impl.ReplyBad {
		t.Errorf("100 sessions: %s %s", shown(s), shown(r[10:14]))
	}
	if value, ok := impl.CellOf(s, "k"); !ok || value != "11" {
		t.Errorf("100 sessions: %q %v", value, ok)
	}
}

func TestSessionsOfStates(t *testing.T) {
	s := fairState()
	for _, want := range s.Sessions {
		if got, ok := impl.SessionOf(s, want.Id); !ok || got != want {
			t.Errorf("SessionOf %d: %s %v, want %s", want.Id, shown(got), ok, shown(want))
		}
	}
	for name, s := range allStates() {
		for id := -2; id <= 101; id++ {
			checkSessionOf(t, name, s, id)
		}
		for _, id := range []int{math.MinInt, math.MaxInt} {
			checkSessionOf(t, name, s, id)
			if got, ok := impl.SessionOf(s, id); ok || got != (impl.Session{}) {
				t.Errorf("%s: SessionOf %d: %s %v", name, id, shown(got), ok)
			}
		}
	}
	for name, s := range badStates() {
		for _, x := range s.Sessions {
			if got, ok := impl.SessionOf(s, x.Id); ok || got != (impl.Session{}) {
				t.Errorf("%s: SessionOf %d: %s %v", name, x.Id, shown(got), ok)
			}
		}
	}
}

func TestCellsOfStates(t *testing.T) {
	s := fairState()
	for _, want := range s.Cells {
		if got, ok := impl.CellOf(s, want.Key); !ok || got != want.Value {
			t.Errorf("CellOf %s: %q %v, want %q", want.Key, got, ok, want.Value)
		}
	}
	for name, s := range allStates() {
		for _, key := range append(anyTexts(), "b", "c", "d", "e", "f", "g", "a\x00", "aa", "ab", "n00", "n00a", "n1", "n39", "n40") {
			checkCellOf(t, name, s, key)
		}
		for _, x := range s.Cells {
			for _, key := range []string{x.Key, x.Key + "\x00", x.Key + "x", x.Key[:len(x.Key)/2], x.Value} {
				checkCellOf(t, name, s, key)
			}
		}
		for _, key := range []string{"", sized(17), sized(5000)} {
			if got, ok := impl.CellOf(s, key); ok || got != "" {
				t.Errorf("%s: CellOf of no key: %q %v", name, got, ok)
			}
		}
	}
	for name, s := range badStates() {
		for _, x := range s.Cells {
			if got, ok := impl.CellOf(s, x.Key); ok || got != "" {
				t.Errorf("%s: CellOf %q: %q %v", name, x.Key, got, ok)
			}
		}
	}
}

// allStates are states, good and not.
func allStates() map[string]impl.KvState {
	l := badStates()
	for name, s := range manyStates() {
		l["good: "+name] = s
	}
	return l
}
