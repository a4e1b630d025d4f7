package tests

import (
	"fmt"
	"slices"
	"testing"

	"loop.example/g00224/impl"
)

func TestCommandsToAStateThatIsNotGood(t *testing.T) {
	for name, s := range badStates() {
		for _, c := range append(commandsFor(impl.KvState{}), impl.Command{}, getting(3, 1, "k"), putting(3, 2, "k", "v"), putting(0, 1, "new", "v")) {
			got, r := impl.ApplyCommand(s, c)
			wantState(t, name, got, impl.KvState{})
			wantReply(t, name, r, replied(impl.ReplyBad, ""))
			checkApply(t, name, s, c)
		}
	}
}

// Neither a new session comes nor does one that is there hear of a command that is not good.
func TestCommandsThatAreNotGoodChangeNothing(t *testing.T) {
	for name, s := range manyStates() {
		for kind, c := range badCommands() {
			wantUnchanged(t, name+", "+kind, s, c, replied(impl.ReplyBad, ""))
			for _, x := range s.Sessions {
				if isWithin(c.Session, 0, 99) {
					c.Session = x.Id
				}
				if isWithin(c.N, 1, 1000000) {
					for _, n := range []int{x.Last - 1, x.Last, x.Last + 1} {
						c.N = n
						wantUnchanged(t, name+", "+kind+" of a session that is there", s, c, replied(impl.ReplyBad, ""))
					}
					c.N = 1
				}
			}
		}
	}
}

func TestEveryCommandToEveryState(t *testing.T) {
	for name, s := range manyStates() {
		for _, c := range commandsFor(s) {
			checkApply(t, name, s, c)
		}
		for _, other := range []impl.KvState{fairState(), numberedState(40, 12)} {
			for _, c := range commandsFor(other) {
				checkApply(t, name, s, c)
			}
		}
	}
}

// A new session goes ahead of all, between two or behind all.
func TestANewSession(t *testing.T) {
	s := fairState()
	for place, id := range []int{0, 4, 49, 99} {
		c := getting(id, 9, "b")
		got, r := checkApply(t, "a new session", s, c)
		wantReply(t, "a new session", r, replied(impl.ReplyOk, "one"))
		want := slices.Insert(slices.Clone(s.Sessions), place, heard(id, 9, impl.ReplyOk, "one"))
		wantState(t, "a new session", got, impl.KvState{Cells: s.Cells, Sessions: want})
	}
	for _, n := range []int{1, 2, 1000000} {
		wantDone(t, "a first N", impl.KvState{}, putting(0, n, "k", "v"), replied(impl.ReplyOk, ""), pair("k", "v"))
	}
}

// With as many sessions as there may be, those that are there go on, and no new one comes.
func TestANewSessionWhereThereIsNoRoom(t *testing.T) {
	full := numberedState(3, 12)
	for id := range 100 {
		c := putting(id, 50, "n01", "new")
		if id%2 == 1 && id < 24 {
			wantDone(t, "one that is there", full, c, replied(impl.ReplyOk, ""), pair("n00", "v0"), pair("n01", "new"), pair("n02", "v2"))
			continue
		}
		for _, op := range everyOp() {
			op.Session = id
			wantUnchanged(t, "no room", full, op, replied(impl.ReplyBad, ""))
		}
		wantUnchanged(t, "no room", full, c, replied(impl.ReplyBad, ""))
	}
	for many := range 13 {
		s := numberedState(3, many)
		got, r := checkApply(t, "room", s, getting(98, 1, "n01"))
		if want := min(many+1, 12); len(got.Sessions) != want {
			t.Errorf("%d sessions: then there are %d", many, len(got.Sessions))
		}
		if many == 12 {
			wantReply(t, "no room", r, replied(impl.ReplyBad, ""))
		} else {
			wantReply(t, "room", r, replied(impl.ReplyOk, "v1"))
		}
	}
}

func TestNumbersAroundTheLast(t *testing.T) {
	for code := range 5 {
		for _, value := range []string{"", "said", sized(40)} {
			for _, last := range []int{1, 2, 500, 999999, 1000000} {
				s := impl.KvState{Cells: fairState().Cells, Sessions: []impl.Session{heard(2, 5, 0, "other"), heard(3, last, code, value), heard(4, 5, 0, "another")}}
				for _, c := range everyOp() {
					c.Session, c.Key = 3, "b"
					c.N = last
					wantUnchanged(t, "the Last", s, c, replied(code, value))
					for _, n := range []int{1, last / 2, last - 1} {
						if c.N = n; n >= 1 && n < last {
							wantUnchanged(t, "less", s, c, replied(impl.ReplyStale, ""))
						}
					}
					for _, n := range []int{last + 1, 1000000} {
						if c.N = n; n > last && n <= 1000000 {
							got, _ := checkApply(t, "greater", s, c)
							if got.Sessions[1].Last != n || got.Sessions[0] != s.Sessions[0] || got.Sessions[2] != s.Sessions[2] {
								t.Errorf("N %d behind %d: the sessions are %s", n, last, shown(got.Sessions))
							}
						}
					}
				}
			}
		}
	}
}

// With the N that was last any command is answered as that one was, whatever it says.
func TestAnotherCommandOfTheSameNumber(t *testing.T) {
	first := putting(3, 7, "k", "v")
	s, r := impl.ApplyCommand(fairState(), first)
	for _, c := range []impl.Command{getting(3, 7, "b"), deleting(3, 7, "k"), putting(3, 7, "k", "other"), putting(3, 7, "new", "other"), swapping(3, 7, "k", "v", "w"), getting(3, 7, "none")} {
		wantUnchanged(t, "the same N", s, c, r)
	}
}

func TestGets(t *testing.T) {
	s := fairState()
	for _, x := range []struct {
		key string
		r   impl.Reply
	}{
		{"b", replied(impl.ReplyOk, "one")},
		{"d", replied(impl.ReplyOk, "")},
		{"f", replied(impl.ReplyOk, "three")},
		{"a", replied(impl.ReplyNone, "")},
		{"c", replied(impl.ReplyNone, "")},
		{"bb", replied(impl.ReplyNone, "")},
		{"g", replied(impl.ReplyNone, "")},
	} {
		wantDone(t, "get "+x.key, s, getting(5, 8, x.key), x.r, s.Cells...)
		wantDone(t, "get "+x.key, s, getting(6, 8, x.key), x.r, s.Cells...)
	}
	wantDone(t, "get of nothing", impl.KvState{}, getting(6, 8, "b"), replied(impl.ReplyNone, ""))
}

func TestPuts(t *testing.T) {
	s := fairState()
	b, d, f := s.Cells[0], s.Cells[1], s.Cells[2]
	ok := replied(impl.ReplyOk, "")
	for _, session := range []int{5, 6} {
		wantDone(t, "the first", s, putting(session, 8, "b", "new"), ok, pair("b", "new"), d, f)
		wantDone(t, "the middle", s, putting(session, 8, "d", "new"), ok, b, pair("d", "new"), f)
		wantDone(t, "the last", s, putting(session, 8, "f", "new"), ok, b, d, pair("f", "new"))
		wantDone(t, "what it has", s, putting(session, 8, "b", "one"), ok, b, d, f)
		wantDone(t, "an empty value", s, putting(session, 8, "b", ""), ok, pair("b", ""), d, f)
		wantDone(t, "the greatest value", s, putting(session, 8, "b", sized(40)), ok, pair("b", sized(40)), d, f)
		wantDone(t, "ahead of all", s, putting(session, 8, "a", "new"), ok, pair("a", "new"), b, d, f)
		wantDone(t, "between", s, putting(session, 8, "c", "new"), ok, b, pair("c", "new"), d, f)
		wantDone(t, "between the next", s, putting(session, 8, "dd", "new"), ok, b, d, pair("dd", "new"), f)
		wantDone(t, "behind all", s, putting(session, 8, "g", "new"), ok, b, d, f, pair("g", "new"))
		wantDone(t, "a new empty value", s, putting(session, 8, "c", ""), ok, b, pair("c", ""), d, f)
		wantDone(t, "the greatest key", s, putting(session, 8, repeated(0xff, 16), "new"), ok, b, d, f, pair(repeated(0xff, 16), "new"))
	}
	wantDone(t, "the first of all", impl.KvState{}, putting(0, 1, "k", ""), ok, pair("k", ""))
}

// With as many cells as there may be a new key is not put, but the session has heard of it.
func TestPutsWhereThereIsNoRoom(t *testing.T) {
	full := numberedState(40, 3)
	bad := replied(impl.ReplyBad, "")
	for _, session := range []int{0, 1, 3, 5, 99} {
		for _, key := range []string{"a", "n", "n00a", "n20a", "n39a", "z", sized(16)} {
			wantDone(t, "no room for "+key, full, putting(session, 20, key, "new"), bad, full.Cells...)
			wantDone(t, "no room for "+key, full, putting(session, 20, key, ""), bad, full.Cells...)
		}
		for place := range 40 {
			want := slices.Clone(full.Cells)
			want[place].Value = "new"
			wantDone(t, "one that is there", full, putting(session, 20, numbered(place), "new"), replied(impl.ReplyOk, ""), want...)
			wantDone(t, "one that is swapped", full, swapping(session, 20, numbered(place), fmt.Sprint("v", place), "new"), replied(impl.ReplyOk, ""), want...)
			wantDone(t, "one that goes", full, deleting(session, 20, numbered(place)), replied(impl.ReplyOk, fmt.Sprint("v", place)), slices.Delete(want, place, place+1)...)
		}
	}
	for many := 37; many < 40; many++ {
		s := numberedState(many, 3)
		for place := range many + 1 {
			key := "n" + numbered(place)[1:] + "-"
			if place == many {
				key = "z"
			}
			got, r := checkApply(t, "room", s, putting(0, 1, key, "new"))
			if r != replied(impl.ReplyOk, "") || len(got.Cells) != many+1 {
				t.Errorf("%d cells: %s and %d cells", many, shown(r), len(got.Cells))
			}
		}
	}
}

// What was refused for want of room is refused again when it comes again, even where there is room by then.
func TestAPutThatCameWhereThereWasNoRoom(t *testing.T) {
	s := numberedState(40, 0)
	c := putting(1, 1, "new", "v")
	s, r := impl.ApplyCommand(s, c)
	wantReply(t, "no room", r, replied(impl.ReplyBad, ""))
	s, r = impl.ApplyCommand(s, deleting(2, 1, "n00"))
	wantReply(t, "one goes", r, replied(impl.ReplyOk, "v0"))
	wantUnchanged(t, "it comes again", s, c, replied(impl.ReplyBad, ""))
	c.N = 2
	s, r = checkApply(t, "under another number", s, c)
	wantReply(t, "under another number", r, replied(impl.ReplyOk, ""))
	if len(s.Cells) != 40 {
		t.Errorf("there are %d cells", len(s.Cells))
	}
}

func TestDeletes(t *testing.T) {
	s := fairState()
	b, d, f := s.Cells[0], s.Cells[1], s.Cells[2]
	for _, session := range []int{5, 6} {
		wantDone(t, "the first", s, deleting(session, 8, "b"), replied(impl.ReplyOk, "one"), d, f)
		wantDone(t, "an empty one", s, deleting(session, 8, "d"), replied(impl.ReplyOk, ""), b, f)
		wantDone(t, "the last", s, deleting(session, 8, "f"), replied(impl.ReplyOk, "three"), b, d)
		for _, key := range []string{"a", "c", "bb", "g"} {
			wantDone(t, "none", s, deleting(session, 8, key), replied(impl.ReplyNone, ""), b, d, f)
		}
	}
	wantDone(t, "the only one", impl.KvState{Cells: []impl.Pair{pair("k", "v")}}, deleting(1, 1, "k"), replied(impl.ReplyOk, "v"))
	wantDone(t, "the only one, empty", impl.KvState{Cells: []impl.Pair{pair("k", "")}}, deleting(1, 1, "k"), replied(impl.ReplyOk, ""))
	wantDone(t, "of nothing", impl.KvState{}, deleting(1, 1, "k"), replied(impl.ReplyNone, ""))
}

func TestSwaps(t *testing.T) {
	s := fairState()
	b, d, f := s.Cells[0], s.Cells[1], s.Cells[2]
	ok := replied(impl.ReplyOk, "")
	for _, session := range []int{5, 6} {
		wantDone(t, "alike", s, swapping(session, 8, "b", "one", "new"), ok, pair("b", "new"), d, f)
		wantDone(t, "alike, the last", s, swapping(session, 8, "f", "three", "new"), ok, b, d, pair("f", "new"))
		wantDone(t, "alike, for itself", s, swapping(session, 8, "b", "one", "one"), ok, b, d, f)
		wantDone(t, "alike, for nothing", s, swapping(session, 8, "b", "one", ""), ok, pair("b", ""), d, f)
		wantDone(t, "alike and empty", s, swapping(session, 8, "d", "", "new"), ok, b, pair("d", "new"), f)
		wantDone(t, "empty for empty", s, swapping(session, 8, "d", "", ""), ok, b, d, f)
		for _, old := range []string{"", "on", "one ", "One", "three", "\x00", sized(40)} {
			wantDone(t, "unlike", s, swapping(session, 8, "b", old, "new"), replied(impl.ReplyDiffers, "one"), b, d, f)
			wantDone(t, "unlike, for what it has", s, swapping(session, 8, "b", old, "one"), replied(impl.ReplyDiffers, "one"), b, d, f)
		}
		wantDone(t, "unlike an empty one", s, swapping(session, 8, "d", "x", "new"), replied(impl.ReplyDiffers, ""), b, d, f)
		for _, key := range []string{"a", "c", "bb", "g"} {
			wantDone(t, "none", s, swapping(session, 8, key, "", "new"), replied(impl.ReplyNone, ""), b, d, f)
			wantDone(t, "none", s, swapping(session, 8, key, "one", "new"), replied(impl.ReplyNone, ""), b, d, f)
		}
	}
	wantDone(t, "of nothing", impl.KvState{}, swapping(1, 1, "k", "", "new"), replied(impl.ReplyNone, ""))
}
