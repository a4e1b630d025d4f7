package tests

import (
	"fmt"
	"slices"
	"testing"

	"loop.example/g00224/impl"
)

// Whatever a command came to, it comes to the same again, and changes nothing.
func TestACommandThatComesAgainAtOnce(t *testing.T) {
	for name, s := range manyStates() {
		for _, c := range commandsFor(s) {
			first, r := impl.ApplyCommand(s, c)
			for range 3 {
				wantUnchanged(t, fmt.Sprintf("%s: again %s", name, shown(c)), first, c, r)
			}
		}
	}
	for seed := range 300 {
		d := dealingOf(seed)
		s := d.kvState(seed)
		for range 20 {
			c := d.command(16, 9)
			first, r := checkApply(t, "drawn", s, c)
			wantUnchanged(t, fmt.Sprint("drawn ", seed), first, c, r)
			s = first
		}
	}
}

// elsewhere is a command of any session but one.
func (d *dealing) elsewhere(session int, numbers int) impl.Command {
	c := d.command(13, numbers)
	if c.Session == session {
		c.Session = 13
	}
	return c
}

// What other sessions do in between, also to the same key, does not change what a command is answered.
func TestACommandThatComesAgainBehindOthers(t *testing.T) {
	for seed := range 300 {
		d := dealingOf(seed)
		s := d.kvState(seed)
		c := d.command(13, 9)
		s, r := checkApply(t, "drawn", s, c)
		for i := range 30 {
			s, _ = impl.ApplyCommand(s, d.elsewhere(c.Session, 20))
			wantUnchanged(t, fmt.Sprint("drawn ", seed, ", behind ", i), s, c, r)
		}
	}
}

func TestACommandThatComesAgainBehindACertainOne(t *testing.T) {
	for name, s := range manyStates() {
		if len(s.Sessions) > 10 {
			continue
		}
		for _, c := range []impl.Command{getting(98, 3, "d"), putting(98, 3, "d", "v"), deleting(98, 3, "d"), swapping(98, 3, "d", "", "v"), swapping(98, 3, "d", "only", "v")} {
			first, r := impl.ApplyCommand(s, c)
			for _, other := range []impl.Command{getting(97, 3, "d"), putting(97, 3, "d", "w"), putting(97, 3, "d", ""), deleting(97, 3, "d"), swapping(97, 3, "d", "v", "x"), putting(97, 3, "e", "w")} {
				then, _ := impl.ApplyCommand(first, other)
				wantUnchanged(t, name+": behind another", then, c, r)
			}
		}
	}
}

// A lesser number is stale, whether it was ever done or not.
func TestACommandWithALesserNumber(t *testing.T) {
	for seed := range 300 {
		d := dealingOf(seed)
		s := d.kvState(seed)
		for range 20 {
			s, _ = impl.ApplyCommand(s, d.command(6, 12))
			for _, x := range s.Sessions {
				c := d.command(1, 12)
				c.Session = x.Id
				if c.N < x.Last {
					wantUnchanged(t, fmt.Sprint("drawn ", seed), s, c, replied(impl.ReplyStale, ""))
				}
			}
		}
	}
}

// Each number of a session changes the map at most once, those of a session that are done rise, and what is told of one that came again is what was told of it first, or that it is stale.
func wantEachOnce(t *testing.T, what string, l []impl.Command) {
	t.Helper()
	type turn struct{ session, n int }
	changed, first, last := map[turn]int{}, map[turn]impl.Reply{}, map[int]int{}
	s := impl.KvState{}
	for i, c := range l {
		next, r := impl.ApplyCommand(s, c)
		this := turn{c.Session, c.N}
		told, came := first[this]
		if !slices.Equal(next.Cells, s.Cells) {
			changed[this]++
		}
		switch {
		case changed[this] > 1:
			t.Errorf("%s: command %d changes the map again: %s", what, i, shown(c))
		case came && !sameState(next, s):
			t.Errorf("%s: command %d came already and changes the state: %s", what, i, shown(c))
		case came && c.N == last[c.Session] && r != told:
			t.Errorf("%s: command %d is answered %s, and was %s: %s", what, i, shown(r), shown(told), shown(c))
		case c.N < last[c.Session] && (r != replied(impl.ReplyStale, "") || !sameState(next, s)):
			t.Errorf("%s: command %d is late and is answered %s: %s", what, i, shown(r), shown(c))
		case !came && c.N > last[c.Session] && isCommandByHand(c) && sameState(next, s) && r != replied(impl.ReplyBad, ""):
			t.Errorf("%s: command %d is not done: %s", what, i, shown(c))
		}
		if x, there := impl.SessionOf(next, c.Session); there && x.Last == c.N && !came {
			first[this], last[c.Session] = r, c.N
		}
		s = next
	}
}

func TestRowsOfCommandsChangeEachOnce(t *testing.T) {
	for seed := range 300 {
		d := dealingOf(seed)
		l := d.commands(100, 1+d.below(14), 1+d.below(12))
		wantEachOnce(t, fmt.Sprint("drawn ", seed), l)
		checkFold(t, fmt.Sprint("drawn ", seed), l)
	}
}

// aClient is a row of commands of each session with rising numbers, as one sends them who waits for each reply.
func (d *dealing) aClient(many int, sessions int) []impl.Command {
	next := map[int]int{}
	var l []impl.Command
	for range many {
		c := d.command(sessions, 1)
		next[c.Session] += 1 + d.below(2)
		c.N = next[c.Session]
		l = append(l, c)
	}
	return l
}

// A row in which commands come again, late or at once, comes to the same map and sessions as without those, and the first of each is answered alike.
func TestRowsInWhichCommandsComeAgain(t *testing.T) {
	for seed := range 300 {
		d := dealingOf(seed)
		once := d.aClient(30, 1+d.below(6))
		want, replies := checkFold(t, "once", once)
		var often []impl.Command
		var firsts []int
		for _, c := range once {
			firsts = append(firsts, len(often))
			often = append(often, c)
			for range d.below(4) {
				often = append(often, often[d.below(len(often))])
			}
		}
		often = often[:min(len(often), 100)]
		got, told := checkFold(t, "often", often)
		if firsts[29] >= 100 {
			continue
		}
		wantState(t, fmt.Sprint("drawn ", seed), got, want)
		for i, place := range firsts {
			wantReply(t, fmt.Sprint("drawn ", seed, ", command ", i), told[place], replies[i])
		}
		for i, c := range often {
			of := slices.Index(once, c)
			if told[i] != replies[of] && told[i] != replied(impl.ReplyStale, "") {
				t.Errorf("drawn %d: command %d is answered %s, want %s", seed, i, shown(told[i]), shown(replies[of]))
			}
		}
	}
}

// All rows of up to four commands of two sessions, two numbers and one key.
func TestAllShortRowsOfCommands(t *testing.T) {
	var all []impl.Command
	for session := range 2 {
		for n := 1; n <= 2; n++ {
			all = append(all, getting(session, n, "k"), putting(session, n, "k", "a"), putting(session, n, "k", ""), deleting(session, n, "k"), swapping(session, n, "k", "a", "b"))
		}
	}
	var grow func(s impl.KvState, row []impl.Command)
	grow = func(s impl.KvState, row []impl.Command) {
		if len(row) == 3 {
			wantEachOnce(t, "a row", row)
			checkFold(t, "a row", row)
		}
		if len(row) == 4 {
			return
		}
		for _, c := range all {
			got, r := impl.ApplyCommand(s, c)
			want, reply := applyByHand(s, c)
			if r != reply || !sameState(got, want) {
				t.Fatalf("behind %s: %s: %s %s, want %s %s", shown(row), shown(c), shown(got), shown(r), shown(want), shown(reply))
			}
			grow(got, append(slices.Clip(row), c))
		}
	}
	grow(impl.KvState{}, nil)
}
