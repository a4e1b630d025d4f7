package tests

import (
	"fmt"
	"math"
	"slices"
	"testing"

	"loop.example/g00224/impl"
)

func TestNewVersion(t *testing.T) {
	wantVersion(t, "NewVersion", impl.NewVersion(), true, version(1, 0))
	wantNoPick(t, "NewVersion", impl.NewVersion())
}

func TestVersionsThatAreGood(t *testing.T) {
	for name, v := range manyVersions() {
		if !isVersionByHand(v) {
			t.Fatalf("%s: %s is none", name, shown(v))
		}
		wantGoodVersion(t, name, v)
	}
}

func TestVersionsThatAreNotGood(t *testing.T) {
	for name, v := range badVersions() {
		if isVersionByHand(v) {
			t.Fatalf("%s: %s is one", name, shown(v))
		}
		wantBadVersion(t, name, v)
	}
}

// checkVersion asks for a version to be good or not.
func checkVersion(t *testing.T, what string, v impl.Version, good bool) {
	t.Helper()
	if good {
		wantGoodVersion(t, what, v)
	} else {
		wantBadVersion(t, what, v)
	}
}

func TestNextOfAVersion(t *testing.T) {
	for next, good := range map[int]bool{math.MinInt: false, -1: false, 0: false, 1: true, 2: true, 100000: true, 100001: true, 100002: false, math.MaxInt: false} {
		checkVersion(t, fmt.Sprint("Next ", next), version(next, 0), good)
		checkVersion(t, fmt.Sprint("Next ", next, " with a meta"), version(next, 0, meta(1, 1, "a", "b")), good && next > 1)
	}
}

func TestSeqOfAVersion(t *testing.T) {
	for seq, good := range map[int]bool{math.MinInt: false, -1: false, 0: true, 1: true, 999999999: true, 1000000000: true, 1000000001: false, math.MaxInt: false} {
		checkVersion(t, fmt.Sprint("Seq ", seq), version(1, seq), good)
		checkVersion(t, fmt.Sprint("Seq ", seq, " with a meta"), version(5, seq, meta(1, 1, "a", "b")), good)
	}
}

func TestHowManyMetasAVersionHas(t *testing.T) {
	for n := range 34 {
		for level := range 4 {
			checkVersion(t, fmt.Sprint(n, " metas on ", level), version(n+1, 0, rowOfMetas(n, 1, level)...), n <= 30)
		}
	}
}

func TestNumbersRiseBelowNext(t *testing.T) {
	for next := 1; next < 6; next++ {
		for a := 1; a < 6; a++ {
			wantGood := a < next
			checkVersion(t, fmt.Sprint(a, " below ", next), version(next, 0, meta(a, 2, "a", "b")), wantGood)
			for b := 1; b < 6; b++ {
				good := a < b && b < next
				checkVersion(t, fmt.Sprint(a, " ", b, " below ", next), version(next, 0, meta(a, 2, "c", "d"), meta(b, 2, "a", "b")), good)
				checkVersion(t, fmt.Sprint(a, " ", b, " below ", next, ", alike"), version(next, 0, meta(a, 0, "a", "b"), meta(b, 0, "a", "b")), good)
			}
		}
	}
	checkVersion(t, "at the greatest Next", version(100001, 0, meta(100000, 1, "a", "b")), true)
	checkVersion(t, "at the greatest number", version(100000, 0, meta(100000, 1, "a", "b")), false)
	checkVersion(t, "below the greatest number", version(100000, 0, meta(99999, 1, "a", "b")), true)
}

func TestNumbersOfMetas(t *testing.T) {
	for number, good := range map[int]bool{math.MinInt: false, -1: false, 0: false, 1: true, 2: true, 99999: true, 100000: true, 100001: false, math.MaxInt: false} {
		checkVersion(t, fmt.Sprint("number ", number), version(100001, 0, meta(number, 1, "a", "b")), good)
		e := edit(100001, 0, nil, meta(number, 1, "a", "b"))
		if s, ok := impl.EditBytes(e); ok != good {
			t.Errorf("number %d: EditBytes: %q %v, want %v", number, s, ok, good)
		}
	}
}

func TestLevelsOfMetas(t *testing.T) {
	for level, good := range map[int]bool{math.MinInt: false, -1: false, 0: true, 1: true, 2: true, 3: true, 4: false, 5: false, math.MaxInt: false} {
		checkVersion(t, fmt.Sprint("level ", level), version(9, 0, meta(1, level, "a", "b")), good)
	}
}

func TestKeysOfMetas(t *testing.T) {
	for size, good := range map[int]bool{0: false, 1: true, 2: true, 15: true, 16: true, 17: false, 18: false, 300: false} {
		what := fmt.Sprint(size, " bytes")
		checkVersion(t, "Least of "+what, version(9, 0, meta(1, 1, sized(size), "y")), good)
		checkVersion(t, "Most of "+what, version(9, 0, meta(1, 1, "a", sized(size))), good)
		checkVersion(t, "both of "+what, version(9, 0, meta(1, 1, sized(size), sized(size))), good)
		checkVersion(t, "noughts, both of "+what, version(9, 0, meta(1, 1, repeated(0, size), repeated(0, size))), good)
	}
	for _, key := range edgeKeys() {
		checkVersion(t, "any key", version(9, 0, meta(1, 1, key, key)), true)
		checkVersion(t, "the least key ahead", version(9, 0, meta(1, 1, "\x00", key)), true)
		checkVersion(t, "the greatest key behind", version(9, 0, meta(1, 1, key, repeated(0xff, 16))), true)
	}
}

func TestLeastIsAtMostMost(t *testing.T) {
	rising := []string{"\x00", "\x00\x00", "\x01", "A", "Z", "a", "a\x00", "aa", "ab", "b", "ba", repeated('x', 15), repeated('x', 16), "\x7f", "\x80", "\xff", repeated(0xff, 16)}
	for i, least := range rising {
		for j, most := range rising {
			for level := range 4 {
				what := fmt.Sprintf("%q to %q", least, most)
				checkVersion(t, what, version(9, 0, meta(1, level, least, most)), i <= j)
			}
		}
	}
}

// pairsOfRanges tell of two ranges whether they have a key in common.
func pairsOfRanges() []struct {
	a, b   [2]string
	common bool
} {
	return []struct {
		a, b   [2]string
		common bool
	}{
		{[2]string{"a", "c"}, [2]string{"c", "e"}, true},
		{[2]string{"a", "c"}, [2]string{"c", "c"}, true},
		{[2]string{"a", "c"}, [2]string{"a", "a"}, true},
		{[2]string{"a", "c"}, [2]string{"b", "b"}, true},
		{[2]string{"a", "c"}, [2]string{"a", "c"}, true},
		{[2]string{"a", "z"}, [2]string{"m", "n"}, true},
		{[2]string{"a", "m"}, [2]string{"a", "z"}, true},
		{[2]string{"m", "z"}, [2]string{"a", "z"}, true},
		{[2]string{"a", "m"}, [2]string{"l", "z"}, true},
		{[2]string{"b", "b"}, [2]string{"b", "b"}, true},
		{[2]string{"a", "b\x00"}, [2]string{"b\x00", "c"}, true},
		{[2]string{"a", "bb"}, [2]string{"b", "c"}, true},
		{[2]string{"\x00", repeated(0xff, 16)}, [2]string{"q", "q"}, true},
		{[2]string{"a", "\x80"}, [2]string{"\x80", "\xff"}, true},
		{[2]string{"a", "c"}, [2]string{"d", "e"}, false},
		{[2]string{"a", "c"}, [2]string{"c\x00", "e"}, false},
		{[2]string{"a", "b"}, [2]string{"bb", "c"}, false},
		{[2]string{"a", "a"}, [2]string{"b", "b"}, false},
		{[2]string{"a", "a"}, [2]string{"aa", "aa"}, false},
		{[2]string{"a", "\x7f"}, [2]string{"\x80", "\xff"}, false},
		{[2]string{"A", "Z"}, [2]string{"a", "z"}, false},
		{[2]string{repeated(0, 15), repeated(0, 15)}, [2]string{repeated(0, 16), repeated(0, 16)}, false},
		{[2]string{repeated('x', 16), repeated('x', 16)}, [2]string{repeated('x', 15) + "y", "y"}, false},
	}
}

func TestRangesOfALevel(t *testing.T) {
	for _, p := range pairsOfRanges() {
		for a := range 4 {
			for b := range 4 {
				what := fmt.Sprintf("%q on %d, %q on %d", p.a, a, p.b, b)
				good := a != b || a == 0 || !p.common
				checkVersion(t, what, version(9, 0, meta(1, a, p.a[0], p.a[1]), meta(2, b, p.b[0], p.b[1])), good)
				checkVersion(t, what+", turned", version(9, 0, meta(1, b, p.b[0], p.b[1]), meta(2, a, p.a[0], p.a[1])), good)
				other := meta(5, (a+1)%4, "1", "2")
				checkVersion(t, what+", another between", version(9, 0, meta(1, a, p.a[0], p.a[1]), other, meta(8, b, p.b[0], p.b[1])), good)
			}
		}
	}
}

// All ranges of a few keys against each other: a key is looked for that lies in both.
func TestAllPairsOfRangesOfFewKeys(t *testing.T) {
	keys := []string{"a", "aa", "ab", "b", "ba"}
	within := func(key string, m impl.Meta) bool { return key >= m.Least && key <= m.Most }
	var metas []impl.Meta
	for i, least := range keys {
		for _, most := range keys[i:] {
			metas = append(metas, meta(1, 2, least, most))
		}
	}
	for _, a := range metas {
		for _, b := range metas {
			b.Number = 7
			both := slices.ContainsFunc(keys, func(key string) bool { return within(key, a) && within(key, b) })
			checkVersion(t, "few keys", version(8, 0, a, b), !both)
		}
	}
}

// Each two of many ranges are held against each other, not those alone that lie side by side in the list.
func TestEachTwoRangesOfManyAreLookedAt(t *testing.T) {
	for i := range 30 {
		for j := range 30 {
			l := rowOfMetas(30, 1, 3)
			if i != j {
				l[i].Least, l[i].Most = l[j].Most, l[j].Most
			}
			checkVersion(t, fmt.Sprint(i, " within ", j), version(31, 0, l...), i == j)
		}
	}
}

// Good versions with one thing changed, good or not as the document's words tell.
func TestVersionsWithOneThingChanged(t *testing.T) {
	good, bad := 0, 0
	for seed := range 300 {
		d := dealingOf(seed)
		v := someVersion(30, seed%40)
		switch d.below(5) {
		case 0:
			v.Next += d.below(9) - 4
		case 1:
			v.Seq = []int{-1, 0, greatestSeq, greatestSeq + 1}[d.below(4)]
		case 2, 3:
			if len(v.Metas) > 0 {
				v.Metas[d.below(len(v.Metas))] = d.meta(d.below(v.Next + 2))
			}
		default:
			v = withMeta(v, d.meta(d.below(v.Next+2)))
		}
		is := isVersionByHand(v)
		checkVersion(t, fmt.Sprint("changed ", seed), v, is)
		if is {
			good++
		} else {
			bad++
		}
	}
	if good < 30 || bad < 30 {
		t.Errorf("%d are good and %d are not: too few of one kind", good, bad)
	}
}
