package tests

import (
	"fmt"
	"math"
	"slices"
	"testing"

	"loop.example/g00224/impl"
)

func TestOverlapsByHand(t *testing.T) {
	v := version(20, 5,
		meta(2, 1, "m", "p"), meta(3, 0, "a", "z"), meta(5, 1, "c", "f"), meta(6, 0, "f", "g"),
		meta(8, 1, "g", "g"), meta(9, 2, "a", "z"), meta(12, 1, "r", "t"), meta(15, 0, "x", "y"))
	wantOverlaps(t, "all of level 0", v, 0, "a", "z", 3, 6, 15)
	wantOverlaps(t, "all of level 1", v, 1, "a", "z", 2, 5, 8, 12)
	wantOverlaps(t, "all of level 2", v, 2, "a", "z", 9)
	wantOverlaps(t, "none of level 3", v, 3, "a", "z")
	wantOverlaps(t, "the end of one", v, 1, "f", "f", 5)
	wantOverlaps(t, "the beginning of one", v, 1, "m", "m", 2)
	wantOverlaps(t, "the end of one and another", v, 1, "f", "g", 5, 8)
	wantOverlaps(t, "right behind one", v, 1, "f\x00", "fz")
	wantOverlaps(t, "from right behind one on", v, 1, "f\x00", "m", 2, 8)
	wantOverlaps(t, "within one", v, 1, "n", "o", 2)
	wantOverlaps(t, "ahead of all", v, 1, "a", "b")
	wantOverlaps(t, "up to the first", v, 1, "\x00", "c", 5)
	wantOverlaps(t, "behind all", v, 1, "t\x00", "z")
	wantOverlaps(t, "from the last on", v, 1, "t", repeated(0xff, 16), 12)
	wantOverlaps(t, "between two", v, 1, "q", "qq")
	wantOverlaps(t, "several on level 0", v, 0, "g", "x", 3, 6, 15)
	wantOverlaps(t, "of no metas", impl.NewVersion(), 0, "a", "z")
	wantOverlaps(t, "of the last number", version(greatestNext, 0, meta(greatestNumber, 3, "k", "k")), 3, "k", "k", greatestNumber)
}

// keysAbout are the keys of a version's ranges, and keys right beside them.
func keysAbout(v impl.Version) []string {
	out := []string{"\x00", "a", sized(16), repeated(0xff, 16)}
	for _, m := range v.Metas {
		for _, key := range []string{m.Least, m.Most} {
			for _, s := range []string{key, key + "\x00", key[:len(key)-1]} {
				if isKeyByHand(s) {
					out = append(out, s)
				}
			}
		}
	}
	slices.Sort(out)
	return slices.Compact(out)
}

// Against a plain look over all metas: every level, and keys at, beside and between the ranges' own.
func TestOverlapsOfManyVersions(t *testing.T) {
	for name, v := range manyVersions() {
		keys := keysAbout(v)
		for i, least := range keys {
			for j, most := range keys {
				if len(keys) > 40 && (i+j)%5 > 0 && i != j {
					continue
				}
				for level := range 4 {
					if i <= j {
						wantOverlaps(t, name, v, level, least, most, overlapsByHand(v, level, least, most)...)
					} else {
						wantNoOverlaps(t, name, v, level, least, most)
					}
				}
			}
		}
	}
}

func TestOverlapsOfPairsOfRanges(t *testing.T) {
	for _, p := range pairsOfRanges() {
		for level := range 4 {
			for asked := range 4 {
				what := fmt.Sprintf("%q and %q", p.a, p.b)
				a, b := version(9, 0, meta(7, level, p.a[0], p.a[1])), version(9, 0, meta(7, level, p.b[0], p.b[1]))
				if p.common && level == asked {
					wantOverlaps(t, what, a, asked, p.b[0], p.b[1], 7)
					wantOverlaps(t, what+", turned", b, asked, p.a[0], p.a[1], 7)
				} else {
					wantOverlaps(t, what, a, asked, p.b[0], p.b[1])
					wantOverlaps(t, what+", turned", b, asked, p.a[0], p.a[1])
				}
			}
		}
	}
}

func TestOverlapsOfLevelsThatAreNone(t *testing.T) {
	for name, v := range manyVersions() {
		for _, level := range []int{math.MinInt, -2, -1, 4, 5, 30, math.MaxInt} {
			wantNoOverlaps(t, name, v, level, "\x00", repeated(0xff, 16))
		}
	}
}

func TestOverlapsOfTextsThatAreNoKeys(t *testing.T) {
	v := version(9, 0, meta(1, 0, "\x00", repeated(0xff, 16)), meta(2, 1, "\x00", repeated(0xff, 16)))
	for size, good := range map[int]bool{0: false, 1: true, 15: true, 16: true, 17: false, 5000: false} {
		for level := range 2 {
			s := sized(size)
			for _, asked := range [][2]string{{s, "y"}, {"a", s}, {s, s}} {
				if good {
					wantOverlaps(t, fmt.Sprint(size, " bytes"), v, level, asked[0], asked[1], level+1)
				} else {
					wantNoOverlaps(t, fmt.Sprint(size, " bytes"), v, level, asked[0], asked[1])
				}
			}
		}
	}
	for _, key := range badKeys() {
		for level := range 4 {
			wantNoOverlaps(t, "a wrong least", v, level, key, repeated(0xff, 16))
			wantNoOverlaps(t, "a wrong most", v, level, "\x00", key)
		}
	}
}

func TestOverlapsOfLeastAboveMost(t *testing.T) {
	v := fairVersion()
	for level := range 4 {
		for _, asked := range [][2]string{{"b", "a"}, {"a\x00", "a"}, {"\xff", "\x7f"}, {"z", "a"}, {repeated('x', 16), repeated('x', 15)}, {"a", "Z"}} {
			wantNoOverlaps(t, "least above most", v, level, asked[0], asked[1])
		}
		wantOverlaps(t, "least at most", v, level, "a", "a", overlapsByHand(v, level, "a", "a")...)
	}
}

func TestPickByHand(t *testing.T) {
	for _, few := range []impl.Version{on(), on(2), on(2, 4), on(2, 4, 6), on(0, 4), on(0, 0, 6), on(2, 4, 6, 18), on(0, 0, 0, 30), on(1, 3, 5), on(0, 0, 0, 9)} {
		wantNoPick(t, "just what they may have", few)
	}
	wantPick(t, "one more on 0", on(3, 4, 6), 0)
	wantPick(t, "one more on 1", on(2, 5, 6), 1)
	wantPick(t, "one more on 2", on(2, 4, 7), 2)
	wantPick(t, "one more on each", on(3, 5, 7), 0)
	wantPick(t, "one more on 1 and 2", on(2, 5, 7), 1)
	wantPick(t, "one more on 0 and 2", on(3, 4, 7), 0)
	wantPick(t, "two more on 1", on(3, 6, 7), 1)
	wantPick(t, "two more on 2", on(3, 5, 8), 2)
	wantPick(t, "two more on 1 and 2", on(3, 6, 8), 1)
	wantPick(t, "two more on each", on(4, 6, 8), 0)
	wantPick(t, "most metas, not the most more", on(4, 5, 7), 0)
	wantPick(t, "the last has many", on(3, 0, 0, 27), 0)
	wantPick(t, "all on 0", on(30), 0)
	wantPick(t, "all on 1", on(0, 30), 1)
	wantPick(t, "all on 2", on(0, 0, 30), 2)
	wantPick(t, "below on 0 and 1", on(0, 0, 7), 2)
	wantPick(t, "below on 0", on(1, 5, 0), 1)
}

// Every way to have metas on the levels, as far as a version may have so many.
func TestPickOfEveryCount(t *testing.T) {
	picked := map[int]int{}
	for a := range 13 {
		for b := range 13 {
			for c := range 13 {
				for _, d := range []int{0, 1, 8, 30 - a - b - c} {
					if d < 0 || a+b+c+d > 30 {
						continue
					}
					v := on(a, b, c, d)
					what := fmt.Sprint(a, " ", b, " ", c, " ", d)
					if level, found := pickByHand(v); found {
						wantPick(t, what, v, level)
						picked[level]++
					} else {
						wantNoPick(t, what, v)
					}
				}
			}
		}
	}
	for level := range 3 {
		if picked[level] < 100 {
			t.Errorf("level %d is picked %d times alone", level, picked[level])
		}
	}
}

// The levels' metas may lie among each other in whatever way.
func TestPickOfManyVersions(t *testing.T) {
	versions := manyVersions()
	for seed := range 200 {
		versions[fmt.Sprint("seed ", seed)] = someVersion(seed%80, seed)
	}
	for name, v := range versions {
		if level, found := pickByHand(v); found {
			wantPick(t, name, v, level)
		} else {
			wantNoPick(t, name, v)
		}
	}
}
