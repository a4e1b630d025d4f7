package tests

import (
	"fmt"
	"testing"

	"loop.example/g00224/impl"
)

func joinedByHand(a impl.Filter, b impl.Filter) impl.Filter {
	set := bitsRead(a.Bits)
	for i, on := range bitsRead(b.Bits) {
		set[i] = set[i] || on
	}
	return impl.Filter{Hashes: a.Hashes, Bits: bitsByHand(set), Many: min(a.Many+b.Many, greatestMany)}
}

// withHashes is a filter of the same bits with another number of hashes.
func withHashes(f impl.Filter, hashes int) impl.Filter {
	f.Hashes = hashes
	return f
}

func TestJoinedFiltersHaveTheBitsOfEither(t *testing.T) {
	for first, a := range manyFilters() {
		for second, b := range manyFilters() {
			for hashes := 1; hashes <= 8; hashes++ {
				a, b := withHashes(a, hashes), withHashes(b, hashes)
				f, ok := impl.JoinFilters(a, b)
				wantFilter(t, first+" and "+second, f, ok, joinedByHand(a, b))
				back, ok := impl.JoinFilters(b, a)
				wantFilter(t, second+" and "+first, back, ok, f)
			}
		}
	}
}

func TestFiltersOfOtherHashesAreNotJoined(t *testing.T) {
	for one := 1; one <= 8; one++ {
		for other := 1; other <= 8; other++ {
			a, b := filterByHand(one, "one"), filterByHand(other, "two")
			f, ok := impl.JoinFilters(a, b)
			if one == other {
				wantFilter(t, fmt.Sprint(one, " and ", other), f, ok, filterByHand(one, "one", "two"))
			} else {
				wantNoFilter(t, fmt.Sprint(one, " and ", other), f, ok)
			}
		}
	}
}

func TestFiltersThatAreNotGoodAreNotJoined(t *testing.T) {
	for fault, bad := range badFilters() {
		for name, good := range manyFilters() {
			for _, good := range []impl.Filter{good, withHashes(good, bad.Hashes)} {
				f, ok := impl.JoinFilters(bad, good)
				wantNoFilter(t, fault+", then "+name, f, ok)
				f, ok = impl.JoinFilters(good, bad)
				wantNoFilter(t, name+", then "+fault, f, ok)
			}
		}
		f, ok := impl.JoinFilters(bad, bad)
		wantNoFilter(t, fault+" twice", f, ok)
	}
}

func TestManyTogetherStopsAtTheMost(t *testing.T) {
	cases := []struct{ a, b, want int }{
		{0, 0, 0}, {0, 1, 1}, {3, 4, 7}, {greatestMany - 1, 0, greatestMany - 1}, {greatestMany - 1, 1, greatestMany}, {greatestMany - 1, 2, greatestMany},
		{500000, 499999, 999999}, {500000, 500000, greatestMany}, {500000, 500001, greatestMany},
		{greatestMany, 0, greatestMany}, {greatestMany, 1, greatestMany}, {greatestMany - 1, greatestMany - 1, greatestMany}, {greatestMany, greatestMany, greatestMany},
	}
	for _, c := range cases {
		a := impl.Filter{Hashes: 2, Bits: onlyAt(1, 100), Many: c.a}
		b := impl.Filter{Hashes: 2, Bits: onlyAt(1, 200), Many: c.b}
		want := impl.Filter{Hashes: 2, Bits: onlyAt(1, 100, 200), Many: c.want}
		f, ok := impl.JoinFilters(a, b)
		wantFilter(t, fmt.Sprint(c.a, " and ", c.b), f, ok, want)
		f, ok = impl.JoinFilters(b, a)
		wantFilter(t, fmt.Sprint(c.b, " and ", c.a), f, ok, want)
	}
}

func TestAFilterOfTwoHasWhatEitherHas(t *testing.T) {
	keys := append(edgeKeys(), someKeys(300, 9)...)
	for first, a := range manyFilters() {
		for second, b := range manyFilters() {
			b = withHashes(b, a.Hashes)
			f, _ := impl.JoinFilters(a, b)
			for _, key := range keys {
				inA, _ := impl.MayHave(a, key)
				inB, _ := impl.MayHave(b, key)
				if inA || inB {
					wantHas(t, first+" and "+second, f, key, true)
				}
			}
		}
	}
}

// Promise 5: in whatever pieces keys are put, and however these are joined, each is said to be there.
func TestJoinedPiecesHaveAllKeys(t *testing.T) {
	for hashes := 1; hashes <= 8; hashes++ {
		keys := someKeys(120, hashes)
		want := filterByHand(hashes, keys...)
		for _, size := range []int{1, 2, 7, 40, 119, 120} {
			var pieces []impl.Filter
			for at := 0; at < len(keys); at += size {
				f, _ := impl.FilterOf(keys[at:min(at+size, len(keys))], hashes)
				pieces = append(pieces, f)
			}
			for seed := range 3 {
				f, ok := joinAll(shuffled(pieces, seed), hashes)
				wantFilter(t, fmt.Sprint("pieces of ", size), f, ok, want)
				f, ok = joinHalves(shuffled(pieces, seed))
				wantFilter(t, fmt.Sprint("halves of pieces of ", size), f, ok, want)
				for _, key := range keys {
					wantHas(t, fmt.Sprint("pieces of ", size), f, key, true)
				}
			}
		}
	}
}

func joinAll(l []impl.Filter, hashes int) (impl.Filter, bool) {
	f, ok := impl.NewFilter(hashes)
	for _, piece := range l {
		got, joined := impl.JoinFilters(f, piece)
		f, ok = got, ok && joined
	}
	return f, ok
}

func joinHalves(l []impl.Filter) (impl.Filter, bool) {
	if len(l) == 1 {
		return l[0], true
	}
	a, okA := joinHalves(l[:len(l)/2])
	b, okB := joinHalves(l[len(l)/2:])
	f, ok := impl.JoinFilters(a, b)
	return f, ok && okA && okB
}

func TestAFilterWithItselfHasTheSameBits(t *testing.T) {
	for name, f := range manyFilters() {
		got, ok := impl.JoinFilters(f, f)
		wantFilter(t, name, got, ok, impl.Filter{Hashes: f.Hashes, Bits: f.Bits, Many: min(2*f.Many, greatestMany)})
	}
}

func TestOnesAreCounted(t *testing.T) {
	for name, f := range manyFilters() {
		ones := 0
		for _, on := range bitsRead(f.Bits) {
			if on {
				ones++
			}
		}
		wantOnes(t, name, f, ones)
	}
	for at := range 256 {
		wantOnes(t, "one bit", impl.Filter{Hashes: 1, Bits: onlyAt(at)}, 1)
		wantOnes(t, "all but one", impl.Filter{Hashes: 8, Bits: allBut(at)}, 255)
		wantOnes(t, "two bits", impl.Filter{Hashes: 3, Bits: onlyAt(at, (at+8)%256)}, 2)
	}
	for c := range 256 {
		ones := 0
		for rest := c; rest > 0; rest /= 2 {
			ones += rest % 2
		}
		wantOnes(t, fmt.Sprint("bytes of ", c), impl.Filter{Hashes: 3, Bits: repeated(byte(c), 32)}, 32*ones)
	}
	wantOnes(t, "no bit", impl.Filter{Hashes: 1, Bits: repeated(0, 32)}, 0)
	wantOnes(t, "every bit", impl.Filter{Hashes: 1, Bits: repeated(0xff, 32), Many: greatestMany}, 256)
	// The two keys have one place in common.
	f, _ := impl.FilterOf([]string{"one", "two"}, 3)
	wantOnes(t, "one and two", f, 5)
}
