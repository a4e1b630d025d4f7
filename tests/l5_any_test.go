package tests

import (
	"fmt"
	"slices"
	"testing"

	"loop.example/g00224/impl"
)

func TestFilterOfWritesIntoNoList(t *testing.T) {
	for _, n := range []int{0, 1, 50, 199, 200, 201} {
		for _, bad := range []bool{false, true} {
			keys := someKeys(n, 11)
			if bad && n > 0 {
				keys[n/2] = ""
			}
			arg := roomy(keys, "behind")
			for _, hashes := range []int{-1, 0, 1, 3, 8, 9} {
				impl.FilterOf(arg, hashes)
			}
			if !slices.Equal(arg, keys) || !slices.Equal(whole(arg), whole(roomy(keys, "behind"))) {
				t.Errorf("%d keys: the list is written into", n)
			}
		}
	}
}

// What lies behind the list is no key of the filter, good or not, even where the list ends at its limit.
func TestFilterOfReadsNothingBehindItsList(t *testing.T) {
	for _, n := range []int{0, 1, 50, 199, 200} {
		keys := someKeys(n, 12)
		for _, behind := range []string{"", "behind", sized(17)} {
			f, ok := impl.FilterOf(roomy(keys, behind), 3)
			wantFilter(t, fmt.Sprint(n, " keys, something behind"), f, ok, filterByHand(3, keys...))
		}
	}
}

func TestFilterOfKeepsNothingOfItsList(t *testing.T) {
	keys := someKeys(60, 13)
	want := filterByHand(4, keys...)
	arg := slices.Clone(keys)
	f, ok := impl.FilterOf(arg, 4)
	fill(arg, "scribble")
	wantFilter(t, "after the list is written over", f, ok, want)
	for _, key := range keys {
		wantHas(t, "after the list is written over", f, key, true)
	}
}

// A filter is a value: what is put into it or joined to it leaves it as it was.
func TestFiltersAheadOfAPutStay(t *testing.T) {
	keys := someKeys(60, 14)
	first, _ := impl.NewFilter(5)
	kept := []impl.Filter{first}
	for _, key := range keys {
		last := kept[len(kept)-1]
		impl.AddKey(last, "beside")
		impl.JoinFilters(last, filterByHand(5, "beside"))
		impl.JoinFilters(filterByHand(5, "beside"), last)
		got, _ := impl.AddKey(last, key)
		kept = append(kept, got)
	}
	for i, f := range kept {
		wantFilter(t, fmt.Sprint("with ", i), f, true, filterByHand(5, keys[:i]...))
	}
}

func TestFiltersAnswerAlikeEachTime(t *testing.T) {
	for range 3 {
		f, ok := impl.NewFilter(3)
		wantFilter(t, "NewFilter", f, ok, impl.Filter{Hashes: 3, Bits: repeated(0, 32)})
		f, ok = impl.FilterOf([]string{"one", "two"}, 3)
		wantFilter(t, "FilterOf", f, ok, filterByHand(3, "one", "two"))
		f, ok = impl.AddKey(f, "three")
		wantFilter(t, "AddKey", f, ok, filterByHand(3, "one", "two", "three"))
		f, ok = impl.JoinFilters(f, filterByHand(3, "four"))
		wantFilter(t, "JoinFilters", f, ok, filterByHand(3, "one", "two", "three", "four"))
		wantOnes(t, "OnesIn", f, 11)
	}
}

// Numbers and texts of every kind at once: each call ends, and tells true just where all it was given is as said.
func TestFiltersOfAnyNumbers(t *testing.T) {
	many := []int{-1, 0, 1, greatestMany - 1, greatestMany, greatestMany + 1}
	for _, hashes := range append(badHashes(), 1, 2, 7, 8) {
		for _, size := range []int{0, 1, 31, 32, 33, 64} {
			for _, n := range many {
				f := impl.Filter{Hashes: hashes, Bits: mixed(size, 1), Many: n}
				good := hashes >= 1 && hashes <= 8 && size == 32 && n >= 0 && n <= greatestMany
				wantAnyFilter(t, f, good)
			}
		}
	}
}

func wantAnyFilter(t *testing.T, f impl.Filter, good bool) {
	t.Helper()
	_, counted := impl.OnesIn(f)
	_, joined := impl.JoinFilters(f, f)
	if impl.GoodFilter(f) != good || counted != good || joined != good {
		t.Errorf("%s: good %v, counted %v, joined %v, want %v", shown(f), impl.GoodFilter(f), counted, joined, good)
	}
	for _, key := range append(badKeys(), "a", sized(16)) {
		as := good && len(key) >= 1 && len(key) <= 16
		_, added := impl.AddKey(f, key)
		if _, asked := impl.MayHave(f, key); added != as || asked != as {
			t.Errorf("%s, key of %d bytes: added %v, asked %v, want %v", shown(f), len(key), added, asked, as)
		}
	}
}
