package tests

import (
	"fmt"
	"math"
	"slices"
	"testing"

	"loop.example/g00224/impl"
)

// newItems are put into the lists that are asked for shared memory: of all heights, ahead of all, between and behind all; and some that are refused.
func newItems() []impl.Item {
	l := []impl.Item{{}, put("", 1, ""), towerItem("a", 2, 0), put("n", -1, "")}
	for height := 1; height <= 5; height++ {
		l = append(l, towerItem("\x00\x00new", height, 1), towerItem("new", height, 1), towerItem("\xff\xffnew", height, 1))
	}
	return l
}

func TestNoInsertSharesMemoryWithTheList(t *testing.T) {
	for name, s := range manySkips() {
		for _, x := range newItems() {
			arg := roomySkip(s)
			want, taken := impl.InsertSkip(copied(s), x)
			got, ok := impl.InsertSkip(arg, x)
			if !untouchedSkip(arg, s) {
				t.Fatalf("%s: InsertSkip %s writes into the list", name, shown(x))
			}
			scribbleSkip(arg)
			if !sameSkip(got, want) || ok != taken {
				t.Errorf("%s: InsertSkip %s shares memory with the list, or reads behind it", name, shown(x))
			}
		}
	}
}

func TestAnswersThatAreWrittenIntoLeaveTheList(t *testing.T) {
	for name, s := range manySkips() {
		arg := roomySkip(s)
		for _, x := range newItems() {
			got, _ := impl.InsertSkip(arg, x)
			scribbleSkip(got)
		}
		for level := range 5 {
			l, _ := impl.ListSkip(arg, level)
			fill(whole(l), put("scribble", 1, "scribble"))
		}
		if !untouchedSkip(arg, s) {
			t.Errorf("%s: an answer that is written into changes the list", name)
		}
		for level := range 5 {
			wantLevel(t, name+", again", arg, level, onLevel(itemsIn(s), level))
		}
	}
}

// listsOf are all lists of numbers that a list with towers has.
func listsOf(s impl.Skip) [][]int {
	l := [][]int{s.Heads}
	for _, t := range s.Towers {
		l = append(l, t.Next)
	}
	return l
}

func TestNoTwoListsOfAnInsertShareMemory(t *testing.T) {
	for name, s := range manySkips() {
		for _, x := range newItems() {
			got, _ := impl.InsertSkip(s, x)
			lists := listsOf(got)
			for i, l := range lists {
				fill(whole(l), i+100)
			}
			for i, l := range lists {
				if slices.ContainsFunc(whole(l), func(n int) bool { return n != i+100 }) {
					t.Errorf("%s: the numbers of tower %d share memory", name, i-1)
				}
			}
		}
	}
}

func TestNothingFromBehindAListWithTowersIsHandedOut(t *testing.T) {
	for name, s := range manySkips() {
		for _, x := range newItems() {
			got, _ := impl.InsertSkip(roomySkip(s), x)
			for _, tower := range whole(got.Towers)[len(got.Towers):] {
				if !sameTower(tower, impl.Tower{}) {
					t.Errorf("%s: a tower lies behind the answer: %s", name, shown(tower))
				}
			}
			for _, l := range listsOf(got) {
				if slices.ContainsFunc(whole(l)[len(l):], func(n int) bool { return n != 0 }) {
					t.Errorf("%s: numbers lie behind the answer: %v", name, whole(l))
				}
			}
		}
		for level := range 5 {
			l, _ := impl.ListSkip(roomySkip(s), level)
			for _, x := range whole(l)[len(l):] {
				if x != (impl.Item{}) {
					t.Errorf("%s: an item lies behind level %d: %s", name, level, shown(x))
				}
			}
		}
	}
}

func TestReadersOfAListWithTowersWriteIntoNothing(t *testing.T) {
	for name, s := range manySkips() {
		arg := roomySkip(s)
		if !impl.GoodSkip(arg) {
			t.Errorf("%s: not good with something behind its lists", name)
		}
		for _, level := range []int{-1, 0, 1, 2, 3, 4, 5} {
			impl.ListSkip(arg, level)
		}
		for _, x := range append(itemsIn(s), newItems()...) {
			impl.SeekSkip(arg, x.Key, x.Seq)
			impl.FindSkip(arg, x.Key, x.Seq)
		}
		wantNoFind(t, name, arg, "behind", 7)
		if !untouchedSkip(arg, s) {
			t.Errorf("%s: a reader writes into the list", name)
		}
	}
}

func TestNewSkipsShareNothing(t *testing.T) {
	for range 3 {
		s := impl.NewSkip()
		wantSkip(t, "NewSkip", s, true, skipByHand())
		scribbleSkip(s)
	}
	a, _ := impl.InsertSkip(impl.NewSkip(), put("a", 1, "x"))
	scribbleSkip(a)
	got, ok := impl.InsertSkip(impl.NewSkip(), put("a", 1, "x"))
	wantSkip(t, "after another is written over", got, ok, skipByHand(put("a", 1, "x")))
}

// What was made ahead stays as it was, whatever is put into it later.
func TestListsAheadOfAnInsertStay(t *testing.T) {
	l := someItems(60, 21)
	kept := []impl.Skip{impl.NewSkip()}
	for _, x := range l {
		last := kept[len(kept)-1]
		impl.InsertSkip(last, towerItem("beside", 5, 0))
		got, _ := impl.InsertSkip(last, x)
		kept = append(kept, got)
	}
	for i, s := range kept {
		wantSkip(t, fmt.Sprint("with ", i), s, true, skipByHand(l[:i]...))
	}
}

// brokenSkips are not good, each in another way.
func brokenSkips() []impl.Skip {
	l := []impl.Skip{{}, {Heads: bareLinks(4)}, {Heads: bareLinks(6)}, {Heads: []int{0, 0, 0, 0, 0}}, skipByHand(someItems(61, 1)...)}
	for _, x := range badItems() {
		l = append(l, skipByHand(append(everyHeight(), x)...))
	}
	for _, n := range []int{math.MinInt, -2, 0, 1, 10, math.MaxInt} {
		for level := range 5 {
			bad := skipByHand(everyHeight()...)
			relink(bad, level, 1)
			bad.Towers[1].Next[level] = n
			l = append(l, bad)
		}
	}
	return l
}

func TestListsThatAreNotGoodAreLeftAsTheyAre(t *testing.T) {
	for i, s := range brokenSkips() {
		arg := roomySkip(s)
		wantBadSkip(t, fmt.Sprint("list ", i), arg)
		for _, x := range newItems() {
			wantNoInsert(t, fmt.Sprint("list ", i), arg, x)
			impl.SeekSkip(arg, x.Key, x.Seq)
		}
		for _, level := range []int{math.MinInt, -1, 5, math.MaxInt} {
			wantNoLevel(t, fmt.Sprint("list ", i), arg, level)
		}
		if !untouchedSkip(arg, s) {
			t.Errorf("list %d is written into", i)
		}
	}
}

// Any numbers whatever in the place of a list's numbers: it is good just where they are the ones that its items ask for.
func TestListsOfAnyNumbers(t *testing.T) {
	l := []impl.Item{towerItem("a", 2, 0), towerItem("b", 1, 0), towerItem("c", 2, 0)}
	want := skipByHand(l...)
	numbers := []int{-2, -1, 0, 1, 2, 3}
	s := copied(want)
	places := []*int{&s.Heads[0], &s.Heads[1], &s.Towers[0].Next[0], &s.Towers[0].Next[1], &s.Towers[1].Next[0], &s.Towers[2].Next[0], &s.Towers[2].Next[1]}
	good := 0
	var walk func(at int)
	walk = func(at int) {
		if at == len(places) {
			is := impl.GoodSkip(s)
			if is != sameSkip(s, want) {
				t.Errorf("%v: good is %v", s, is)
			}
			if is {
				good++
			}
			return
		}
		for _, n := range numbers {
			*places[at] = n
			walk(at + 1)
		}
	}
	walk(0)
	if good != 1 {
		t.Errorf("%d lists are good, want 1", good)
	}
}
