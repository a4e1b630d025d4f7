package tests

import (
	"fmt"
	"math"
	"slices"
	"testing"

	"loop.example/g00224/impl"
)

func TestListsThatAreGood(t *testing.T) {
	for name, s := range manySkips() {
		if !impl.GoodSkip(s) {
			t.Errorf("%s: not good", name)
		}
	}
}

// The order in which towers were put does not matter.
func TestTowersMayStandInAnyOrder(t *testing.T) {
	l := everyHeight()
	for i := range l {
		for j := range l {
			other := slices.Clone(l)
			other[i], other[j] = other[j], other[i]
			if !impl.GoodSkip(skipByHand(other...)) {
				t.Errorf("not good with %d and %d in each other's place", i, j)
			}
		}
	}
}

func TestListsNeedMaxTowerHeads(t *testing.T) {
	for name, s := range manySkips() {
		for n := range 9 {
			bad := copied(s)
			bad.Heads = append(slices.Clone(s.Heads), bareLinks(4)...)[:n]
			if n != 5 {
				wantBadSkip(t, fmt.Sprint(name, ", heads: ", n), bad)
			}
		}
		bad := copied(s)
		bad.Heads = nil
		wantBadSkip(t, name+", no heads", bad)
	}
	wantBadSkip(t, "nothing", impl.Skip{})
}

func TestListsHaveAtMostMaxSkipTowers(t *testing.T) {
	for _, n := range []int{61, 62, 100, 1000} {
		wantBadSkip(t, fmt.Sprint(n, " towers"), skipByHand(someItems(n, 6)...))
		wantBadSkip(t, fmt.Sprint(n, " towers of one key"), skipByHand(oneKey(n)...))
	}
	if !impl.GoodSkip(skipByHand(oneKey(60)...)) || !impl.GoodSkip(skipByHand(someItems(60, 6)...)) {
		t.Error("not good with MaxSkip towers")
	}
}

// Every number of a good list is what it must be: any other one makes a list that is not good.
func TestNoNumberOfAListMayBeAnother(t *testing.T) {
	for name, s := range manySkips() {
		others := []int{math.MinInt, -3, -2, len(s.Towers), len(s.Towers) + 1, 60, 1 << 40, math.MaxInt}
		for n := -1; n < len(s.Towers); n++ {
			others = append(others, n)
		}
		for at := -1; at < len(s.Towers); at++ {
			bad := copied(s)
			links := bad.Heads
			if at >= 0 {
				links = bad.Towers[at].Next
			}
			for level, was := range links {
				for _, other := range others {
					links[level] = other
					if other != was && impl.GoodSkip(bad) {
						t.Errorf("%s: good with %d for %d at level %d of tower %d", name, other, was, level, at)
					}
				}
				links[level] = was
			}
			if !impl.GoodSkip(bad) {
				t.Fatalf("%s: not good as it was", name)
			}
		}
	}
}

func TestNumbersThatAreNoTowers(t *testing.T) {
	for _, other := range []int{math.MinInt, -2, 10, 11, math.MaxInt} {
		for level := range 5 {
			bad := skipByHand(everyHeight()...)
			bad.Heads[level] = other
			wantBadSkip(t, fmt.Sprint("head ", other), bad)
			for _, i := range numbersOn(skipByHand(everyHeight()...), level) {
				bad = skipByHand(everyHeight()...)
				bad.Towers[i].Next[level] = other
				wantBadSkip(t, fmt.Sprint("next of ", i, " is ", other), bad)
			}
		}
	}
	bad := impl.NewSkip()
	bad.Heads[4] = 0
	wantBadSkip(t, "a head without towers", bad)
}

// Towers that are one higher or lower than they should, and linked as if that were right.
func TestTowersOfAnotherHeight(t *testing.T) {
	l := append(everyHeight(), someItems(20, 3)...)
	for i := range l {
		for size := range 7 {
			towers := bareTowers(l)
			if size == len(towers[i].Next) {
				continue
			}
			towers[i].Next = bareLinks(size)
			bad := impl.Skip{}
			if size <= 5 {
				bad = linkedUp(towers)
			} else {
				bad = skipByHand(l...)
				bad.Towers[i].Next = append(bad.Towers[i].Next, bareLinks(size-len(bad.Towers[i].Next))...)
			}
			wantBadSkip(t, fmt.Sprint("tower ", i, " has ", size), bad)
		}
	}
}

func TestTowersThatHaveNoNumbers(t *testing.T) {
	for height := 1; height <= 5; height++ {
		x := towerItem("k", height, 0)
		wantBadSkip(t, "not there", impl.Skip{Heads: bareLinks(5), Towers: []impl.Tower{{Item: x}}})
		wantBadSkip(t, "there", impl.Skip{Heads: []int{0, -1, -1, -1, -1}, Towers: []impl.Tower{{Item: x}}})
		wantBadSkip(t, "an empty one", impl.Skip{Heads: []int{0, 0, 0, 0, 0}, Towers: []impl.Tower{{Item: x, Next: []int{}}}})
	}
}

func TestLevelsWithATowerThatIsNotSoHigh(t *testing.T) {
	l := everyHeight()
	for i, x := range l {
		height := heightByHand(x.Key, x.Seq)
		for level := height; level < 5; level++ {
			bad := skipByHand(l...)
			bad.Heads[level] = i
			wantBadSkip(t, fmt.Sprint("tower ", i, " at the head of level ", level), bad)
			for _, other := range numbersOn(skipByHand(l...), level) {
				bad = skipByHand(l...)
				bad.Towers[other].Next[level] = i
				wantBadSkip(t, fmt.Sprint("tower ", i, " behind ", other, " on level ", level), bad)
			}
		}
	}
}

func TestLevelsThatLackATower(t *testing.T) {
	l := append(everyHeight(), someItems(30, 4)...)
	made := skipByHand(l...)
	for level := range 5 {
		numbers := numbersOn(made, level)
		for i := range numbers {
			bad := copied(made)
			relink(bad, level, slices.Delete(slices.Clone(numbers), i, i+1)...)
			wantBadSkip(t, fmt.Sprint("level ", level, " lacks ", i), bad)
			bad = copied(made)
			relink(bad, level, numbers[:i]...)
			wantBadSkip(t, fmt.Sprint("level ", level, " ends at ", i), bad)
		}
	}
}

// A tower that is on no level is not in the list.
func TestTowersThatAreOnNoLevel(t *testing.T) {
	for height := 1; height <= 5; height++ {
		x := towerItem("lost", height, 0)
		for name, s := range manySkips() {
			bad := copied(s)
			bad.Towers = append(bad.Towers, impl.Tower{Item: x, Next: bareLinks(height)})
			wantBadSkip(t, fmt.Sprint(name, ", height ", height), bad)
		}
	}
}

func TestLevelsThatGoInARing(t *testing.T) {
	made := skipByHand(append(everyHeight(), someItems(10, 8)...)...)
	for level := range 5 {
		numbers := numbersOn(made, level)
		for _, from := range numbers {
			for _, to := range numbers[:slices.Index(numbers, from)+1] {
				bad := copied(made)
				bad.Towers[from].Next[level] = to
				wantBadSkip(t, fmt.Sprint("level ", level, ": ", to, " behind ", from), bad)
			}
		}
	}
	alone := skipByHand(towerItem("k", 5, 0))
	for level := range 5 {
		bad := copied(alone)
		bad.Towers[0].Next[level] = 0
		wantBadSkip(t, fmt.Sprint("level ", level, ": one behind itself"), bad)
	}
}

func TestLevelsThatAreOutOfOrder(t *testing.T) {
	made := skipByHand(append(everyHeight(), alikeKeys()...)...)
	for level := range 5 {
		numbers := numbersOn(made, level)
		for i := range numbers {
			for j := range i {
				other := slices.Clone(numbers)
				other[i], other[j] = other[j], other[i]
				bad := copied(made)
				relink(bad, level, other...)
				wantBadSkip(t, fmt.Sprint("level ", level, ": ", i, " and ", j), bad)
			}
		}
	}
}

// Out of order on every level alike, as if the order were another one.
func TestListsByAnotherOrder(t *testing.T) {
	for name, l := range map[string][]impl.Item{
		"Seqs rising":  {put("k", 1, ""), put("k", 2, "")},
		"keys falling": {put("b", 1, ""), put("a", 1, "")},
		"by Seq first": {put("b", 9, ""), put("a", 1, "")},
		"longer first": {put("aa", 1, ""), put("a", 1, "")},
	} {
		bad := impl.Skip{Heads: bareLinks(5), Towers: bareTowers(l)}
		good := impl.Skip{Heads: bareLinks(5), Towers: bareTowers(l)}
		for level := range 5 {
			var high []int
			for i, tower := range bad.Towers {
				if len(tower.Next) > level {
					high = append(high, i)
				}
			}
			relink(bad, level, high...)
			slices.Reverse(high)
			relink(good, level, high...)
		}
		wantBadSkip(t, name, bad)
		if !impl.GoodSkip(good) {
			t.Errorf("%s: not good the other way round", name)
		}
	}
}

func TestListsOfItemsThatAreAlike(t *testing.T) {
	for _, l := range [][]impl.Item{everyHeight(), edgeItems(), someItems(30, 2)} {
		for _, x := range l {
			for _, twice := range []impl.Item{x, gone(x.Key, x.Seq), put(x.Key, x.Seq, "another")} {
				wantBadSkip(t, "behind all", skipByHand(append(slices.Clone(l), twice)...))
				wantBadSkip(t, "ahead of all", skipByHand(append([]impl.Item{twice}, l...)...))
				wantBadSkip(t, "alone", skipByHand(x, twice))
			}
		}
	}
}

func TestListsOfItemsThatAreNotGood(t *testing.T) {
	for fault, x := range badItems() {
		wantBadSkip(t, fault+", alone", skipByHand(x))
		l := everyHeight()
		for i := range l {
			wantBadSkip(t, fault, skipByHand(slices.Insert(slices.Clone(l), i, x)...))
		}
	}
}
