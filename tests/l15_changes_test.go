package tests

import (
	"fmt"
	"slices"
	"testing"

	"loop.example/g00224/impl"
)

// putsOf are so many commands that each change something, of at most so many keys.
func putsOf(many int, keys int) []impl.Command {
	var l []impl.Command
	for i := range many {
		l = append(l, putting(1, i+1, numbered(i%keys), fmt.Sprint("v", i)))
	}
	return l
}

func TestHowManyCommandsMayChangeSomething(t *testing.T) {
	wantChanges(t, "none", nil)
	wantChanges(t, "none, not nil", []impl.Command{})
	wantChanges(t, "one", putsOf(1, 1), 0)
	wantChanges(t, "99", putsOf(99, 40), allBelow(99)...)
	wantChanges(t, "100", putsOf(100, 40), allBelow(100)...)
	wantChanges(t, "100 that change nothing", slices.Repeat([]impl.Command{getting(1, 1, "k")}, 100))
	for many, l := range map[string][]impl.Command{
		"101":                     putsOf(101, 40),
		"101 that change nothing": slices.Repeat([]impl.Command{getting(1, 1, "k")}, 101),
		"101 that are not good":   make([]impl.Command, 101),
		"very many":               putsOf(3000, 40),
	} {
		if got, ok := impl.ChangesOf(l); ok || len(got) != 0 {
			t.Errorf("%s: ChangesOf: %v %v, want nothing", many, got, ok)
		}
		checkChanges(t, many, l)
	}
}

// What each kind of command changes behind a put of "k" with "v" by session 1 and its number 5.
func TestWhatACommandChanges(t *testing.T) {
	first := putting(1, 5, "k", "v")
	for _, x := range []struct {
		name    string
		c       impl.Command
		changes bool
	}{
		{"a put of the same value", putting(1, 6, "k", "v"), false},
		{"a put of another value", putting(1, 6, "k", "w"), true},
		{"a put of the empty value", putting(1, 6, "k", ""), true},
		{"a put of another key", putting(1, 6, "j", "v"), true},
		{"a put of the empty value to another key", putting(1, 6, "l", ""), true},
		{"a swap that fits", swapping(1, 6, "k", "v", "w"), true},
		{"a swap that fits, to the same value", swapping(1, 6, "k", "v", "v"), false},
		{"a swap that fits, to the empty value", swapping(1, 6, "k", "v", ""), true},
		{"a swap that does not fit", swapping(1, 6, "k", "w", "x"), false},
		{"a swap that does not fit, to the same value", swapping(1, 6, "k", "", "v"), false},
		{"a swap of what is not there", swapping(1, 6, "j", "", "x"), false},
		{"a deletion", deleting(1, 6, "k"), true},
		{"a deletion of what is not there", deleting(1, 6, "j"), false},
		{"a get", getting(1, 6, "k"), false},
		{"a get of what is not there", getting(1, 6, "j"), false},
		{"the same again", first, false},
		{"another with that number", putting(1, 5, "k", "w"), false},
		{"a deletion with that number", deleting(1, 5, "k"), false},
		{"one that is late", putting(1, 4, "k", "w"), false},
		{"a deletion that is late", deleting(1, 1, "k"), false},
		{"the same of another session", putting(2, 5, "k", "v"), false},
		{"a deletion of another session", deleting(2, 1, "k"), true},
		{"the zero command", impl.Command{}, false},
		{"an Op that is none", impl.Command{Session: 1, N: 6, Op: 5, Key: "k", Value: "w"}, false},
		{"no key", putting(1, 6, "", "w"), false},
		{"a value that is too long", putting(1, 6, "k", sized(41)), false},
		{"a number that is none", putting(1, 1000001, "k", "w"), false},
		{"a session that is none", putting(100, 1, "k", "w"), false},
	} {
		want := []int{0}
		if x.changes {
			want = []int{0, 1}
		}
		wantChanges(t, x.name, []impl.Command{first, x.c}, want...)
	}
}

// A session keeps what it is told, which is no change of the cells.
func TestWhatChangesSessionsAlone(t *testing.T) {
	l := []impl.Command{getting(1, 1, "k"), getting(2, 1, "k"), putting(1, 2, "k", "v"), getting(2, 2, "k"), deleting(3, 1, "j"), putting(3, 2, "k", "v"), deleting(3, 3, "k")}
	wantChanges(t, "sessions", l, 2, 6)
}

// There and back again are two changes.
func TestChangesThatAreUndone(t *testing.T) {
	wantChanges(t, "there and back", []impl.Command{putting(1, 1, "k", "a"), putting(1, 2, "k", "b"), putting(1, 3, "k", "a"), deleting(1, 4, "k"), putting(1, 5, "k", "a"), deleting(1, 6, "k"), deleting(1, 7, "k")}, 0, 1, 2, 3, 4, 5)
}

// Beyond MaxCells a new key is not put, and so changes nothing; one that is there is.
func TestChangesOfAMapThatIsFull(t *testing.T) {
	l := append(putsOf(41, 41), putting(1, 42, numbered(39), "other"), putting(1, 43, numbered(40), "v"), deleting(1, 44, numbered(0)), putting(1, 45, numbered(40), "v"), putting(1, 46, numbered(0), "v"))
	wantChanges(t, "41 cells", l, append(allBelow(40), 41, 43, 44)...)
}

func TestChangesOfASessionTooMany(t *testing.T) {
	var l []impl.Command
	for i := range 14 {
		l = append(l, putting(i, 1, "k", fmt.Sprint(i)))
	}
	l = append(l, putting(0, 2, "k", "again"))
	wantChanges(t, "13 sessions", l, append(allBelow(12), 14)...)
}

// wantChangesOfFolds asks that just the commands are told behind which FoldCommands has other cells than ahead.
func wantChangesOfFolds(t *testing.T, what string, l []impl.Command) {
	t.Helper()
	var want []int
	var ahead impl.KvState
	for i := range l {
		s, _, _ := impl.FoldCommands(l[:i+1])
		if !slices.Equal(s.Cells, ahead.Cells) {
			want = append(want, i)
		}
		ahead = s
	}
	wantChanges(t, what, l, want...)
}

func TestChangesOfDrawnCommands(t *testing.T) {
	many := 0
	for seed := range 200 {
		d := dealingOf(seed)
		l := d.commands(d.below(101), 1+d.below(14), 1+d.below(100))
		for i := range l {
			if d.below(10) == 0 {
				l[i].Op = d.below(6)
			}
		}
		wantChangesOfFolds(t, fmt.Sprint("drawn ", seed), l)
		wantChangesOfFolds(t, fmt.Sprint("a client's ", seed), d.aClient(60, 4))
		many += len(checkChanges(t, "drawn", l))
	}
	if many < 800 {
		t.Errorf("%d changes: too few", many)
	}
	for name, l := range rowsOfCommands() {
		checkChanges(t, name, l)
	}
}

// Leaving all others out leaves the map: what is told is all that changes something.
func TestTheChangesAloneComeToTheSameMap(t *testing.T) {
	for seed := range 100 {
		l := dealingOf(seed).aClient(100, 4)
		var alone []impl.Command
		for _, number := range checkChanges(t, "drawn", l) {
			alone = append(alone, l[number])
		}
		want, _, _ := foldByHand(l)
		if got, _, _ := impl.FoldCommands(alone); !slices.Equal(got.Cells, want.Cells) {
			t.Errorf("drawn %d: the changes alone come to %s, want %s", seed, shown(got.Cells), shown(want.Cells))
		}
		wantChanges(t, fmt.Sprint("drawn ", seed), alone, allBelow(len(alone))...)
	}
}
