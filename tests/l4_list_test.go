package tests

import (
	"fmt"
	"math"
	"slices"
	"testing"

	"loop.example/g00224/impl"
)

func TestNewSkip(t *testing.T) {
	s := impl.NewSkip()
	wantSkip(t, "NewSkip", s, true, impl.Skip{Heads: []int{-1, -1, -1, -1, -1}})
	for level := range 5 {
		wantLevel(t, "NewSkip", s, level, nil)
	}
}

// inserted puts items one by one, and asks for the whole list behind each.
func inserted(t *testing.T, l []impl.Item) impl.Skip {
	t.Helper()
	s := impl.NewSkip()
	for i, x := range l {
		got, ok := impl.InsertSkip(s, x)
		wantSkip(t, fmt.Sprint("item ", i, " of ", len(l)), got, ok, skipByHand(l[:i+1]...))
		s = got
	}
	return s
}

func TestInsertPutsATowerBehindAllAndOnItsLevels(t *testing.T) {
	low, high, middle := towerItem("b", 1, 0), towerItem("d", 5, 0), towerItem("c", 3, 0)
	s, ok := impl.InsertSkip(impl.NewSkip(), low)
	wantSkip(t, "a low one", s, ok, impl.Skip{Heads: []int{0, -1, -1, -1, -1}, Towers: []impl.Tower{{Item: low, Next: []int{-1}}}})
	s, ok = impl.InsertSkip(s, high)
	wantSkip(t, "a high one behind it", s, ok, impl.Skip{Heads: []int{0, 1, 1, 1, 1}, Towers: []impl.Tower{
		{Item: low, Next: []int{1}}, {Item: high, Next: []int{-1, -1, -1, -1, -1}},
	}})
	s, ok = impl.InsertSkip(s, middle)
	wantSkip(t, "one between them", s, ok, impl.Skip{Heads: []int{0, 2, 2, 1, 1}, Towers: []impl.Tower{
		{Item: low, Next: []int{2}}, {Item: high, Next: []int{-1, -1, -1, -1, -1}}, {Item: middle, Next: []int{1, 1, 1}},
	}})
	first := towerItem("a", 2, 0)
	s, ok = impl.InsertSkip(s, first)
	wantSkip(t, "one ahead of all", s, ok, impl.Skip{Heads: []int{3, 3, 2, 1, 1}, Towers: []impl.Tower{
		{Item: low, Next: []int{2}}, {Item: high, Next: []int{-1, -1, -1, -1, -1}}, {Item: middle, Next: []int{1, 1, 1}}, {Item: first, Next: []int{0, 2}},
	}})
	last := towerItem("e", 4, 0)
	s, ok = impl.InsertSkip(s, last)
	wantSkip(t, "one behind all", s, ok, impl.Skip{Heads: []int{3, 3, 2, 1, 1}, Towers: []impl.Tower{
		{Item: low, Next: []int{2}}, {Item: high, Next: []int{4, 4, 4, 4, -1}}, {Item: middle, Next: []int{1, 1, 1}}, {Item: first, Next: []int{0, 2}},
		{Item: last, Next: []int{-1, -1, -1, -1}},
	}})
}

func TestListsOfManyKindsAreInserted(t *testing.T) {
	for name, s := range manySkips() {
		got := inserted(t, itemsIn(s))
		wantSkip(t, name, got, true, s)
	}
	for seed := range 40 {
		inserted(t, someItems(60, seed))
	}
}

func TestListsInEveryOrder(t *testing.T) {
	l := []impl.Item{towerItem("a", 3, 0), towerItem("b", 5, 0), towerItem("b", 1, 0), towerItem("c", 2, 0), towerItem("d", 4, 0)}
	var walk func(chosen []impl.Item)
	walk = func(chosen []impl.Item) {
		if len(chosen) == len(l) {
			s := inserted(t, chosen)
			for level := range 5 {
				wantLevel(t, "any order", s, level, onLevel(l, level))
			}
		}
		for _, x := range l {
			if !slices.Contains(chosen, x) {
				walk(append(slices.Clone(chosen), x))
			}
		}
	}
	walk(nil)
}

func TestAnItemIsInsertedAtEveryPlace(t *testing.T) {
	for name, s := range manySkips() {
		l := itemsIn(s)
		for i, x := range l {
			rest := slices.Delete(slices.Clone(l), i, i+1)
			got, ok := impl.InsertSkip(skipByHand(rest...), x)
			wantSkip(t, fmt.Sprint(name, ", item ", i), got, ok, skipByHand(append(rest, x)...))
		}
	}
}

func TestTowersKeepTheirPlaces(t *testing.T) {
	for name, s := range manySkips() {
		l := itemsIn(s)
		if len(l) == 60 {
			continue
		}
		for height := 1; height <= 5; height++ {
			x := towerItem("new", height, 3)
			got, ok := impl.InsertSkip(s, x)
			wantSkip(t, fmt.Sprint(name, ", height ", height), got, ok, skipByHand(append(l, x)...))
			if !slices.Equal(itemsIn(got), append(l, x)) {
				t.Errorf("%s: the towers are %s", name, shown(itemsIn(got)))
			}
		}
	}
}

func isPartOf(l []impl.Item, of []impl.Item) bool {
	at := 0
	for _, x := range of {
		if at < len(l) && l[at] == x {
			at++
		}
	}
	return at == len(l)
}

func TestEachLevelHasSomeOfThoseBelow(t *testing.T) {
	for name, made := range manySkips() {
		l := itemsIn(made)
		for _, s := range []impl.Skip{made, inserted(t, l)} {
			below := inOrder(l)
			for level := range 5 {
				wantLevel(t, name, s, level, onLevel(l, level))
				got, _ := impl.ListSkip(s, level)
				if !isPartOf(got, below) || level == 0 && len(got) != len(l) {
					t.Errorf("%s: level %d is no part of what is below: %s", name, level, shown(got))
				}
				below = got
			}
		}
	}
}

func TestLevelsRise(t *testing.T) {
	for name, s := range manySkips() {
		for level := range 5 {
			l, _ := impl.ListSkip(s, level)
			for i := 1; i < len(l); i++ {
				if order, ok := impl.CompareItem(l[i-1], l[i]); order != -1 || !ok {
					t.Errorf("%s: level %d does not rise at %d", name, level, i)
				}
			}
		}
	}
}

func TestLevelsThatAreNone(t *testing.T) {
	for name, s := range manySkips() {
		for _, level := range []int{math.MinInt, -2, -1, 5, 6, math.MaxInt} {
			wantNoLevel(t, name, s, level)
		}
		wantLevel(t, name, s, 0, onLevel(itemsIn(s), 0))
		wantLevel(t, name, s, 4, onLevel(itemsIn(s), 4))
	}
}

func TestNoItemIsInsertedTwice(t *testing.T) {
	for name, s := range manySkips() {
		for _, x := range itemsIn(s) {
			wantNoInsert(t, name, s, x)
			wantNoInsert(t, name, s, gone(x.Key, x.Seq))
			wantNoInsert(t, name, s, put(x.Key, x.Seq, "another"))
		}
	}
}

func TestItemsBesideOnesThatAreThereAreInserted(t *testing.T) {
	l := alikeKeys()
	s := skipByHand(l...)
	for _, x := range l {
		for _, near := range []impl.Item{put(x.Key, x.Seq+1, "x"), gone(x.Key, x.Seq-1), put(x.Key+"\x00", x.Seq, "x"), gone(x.Key[:1]+"a", x.Seq)} {
			if !slices.ContainsFunc(l, func(y impl.Item) bool { return y.Key == near.Key && y.Seq == near.Seq }) {
				got, ok := impl.InsertSkip(s, near)
				wantSkip(t, shown(near), got, ok, skipByHand(append(slices.Clone(l), near)...))
			}
		}
	}
}

func TestInsertTakesGoodItemsAlone(t *testing.T) {
	for name, s := range manySkips() {
		for fault, x := range badItems() {
			wantNoInsert(t, name+", "+fault, s, x)
		}
	}
}

func TestInsertTakesItemsAtTheirEdges(t *testing.T) {
	inserted(t, edgeItems())
	for _, x := range edgeItems() {
		inserted(t, []impl.Item{x})
	}
}

func TestAListHasRoomForMaxSkip(t *testing.T) {
	l := someItems(61, 9)
	s := inserted(t, l[:60])
	if len(s.Towers) != 60 {
		t.Errorf("there are %d towers", len(s.Towers))
	}
	wantNoInsert(t, "full", s, l[60])
	for height := 1; height <= 5; height++ {
		wantNoInsert(t, "full", s, towerItem("new", height, 0))
	}
	wantNoInsert(t, "full, there already", s, l[7])
}
