package tests

import (
	"fmt"
	"slices"
	"testing"

	"loop.example/g00224/impl"
)

func TestNewFilterHasNothingSet(t *testing.T) {
	for hashes := 1; hashes <= 8; hashes++ {
		f, ok := impl.NewFilter(hashes)
		wantFilter(t, "NewFilter", f, ok, impl.Filter{Hashes: hashes, Bits: repeated(0, 32)})
		wantOnes(t, "NewFilter", f, 0)
		for _, key := range append(edgeKeys(), someKeys(200, 4)...) {
			wantHas(t, "NewFilter", f, key, false)
		}
	}
	for _, hashes := range badHashes() {
		f, ok := impl.NewFilter(hashes)
		wantNoFilter(t, fmt.Sprint("NewFilter ", hashes), f, ok)
	}
}

func TestGoodFiltersMeetTheLimits(t *testing.T) {
	for name, f := range manyFilters() {
		if !impl.GoodFilter(f) {
			t.Errorf("%s: %s is not good", name, shown(f))
		}
	}
	for fault, f := range badFilters() {
		if impl.GoodFilter(f) {
			t.Errorf("%s: %s is good", fault, shown(f))
		}
	}
}

func TestFiltersThatAreNotGoodAreRefused(t *testing.T) {
	for fault, f := range badFilters() {
		for _, key := range append(edgeKeys(), badKeys()...) {
			got, ok := impl.AddKey(f, key)
			wantNoFilter(t, fault+": AddKey", got, ok)
			wantNoHas(t, fault, f, key)
		}
		if n, ok := impl.OnesIn(f); n != 0 || ok {
			t.Errorf("%s: OnesIn: %d %v", fault, n, ok)
		}
	}
}

func TestWrongKeysAreRefused(t *testing.T) {
	for name, f := range manyFilters() {
		for _, key := range badKeys() {
			got, ok := impl.AddKey(f, key)
			wantNoFilter(t, name+": AddKey", got, ok)
			wantNoHas(t, name, f, key)
		}
	}
}

func TestAddKeySetsThePlacesAndNoOther(t *testing.T) {
	for name, f := range manyFilters() {
		for _, key := range append(edgeKeys(), someKeys(60, 5)...) {
			set := bitsRead(f.Bits)
			for _, at := range placesByHand(key, f.Hashes) {
				set[at] = true
			}
			want := impl.Filter{Hashes: f.Hashes, Bits: bitsByHand(set), Many: min(f.Many+1, greatestMany)}
			got, ok := impl.AddKey(f, key)
			wantFilter(t, name+": AddKey "+key, got, ok, want)
		}
	}
}

func TestManyStopsAtTheMost(t *testing.T) {
	f := impl.Filter{Hashes: 3, Bits: repeated(0, 32), Many: greatestMany - 2}
	for _, want := range []int{greatestMany - 1, greatestMany, greatestMany, greatestMany} {
		got, ok := impl.AddKey(f, "one")
		wantFilter(t, "AddKey", got, ok, impl.Filter{Hashes: 3, Bits: onlyAt(placesByHand("one", 3)...), Many: want})
		f = got
	}
}

// All places have to be set: one that is not says that the key was not put.
func TestMayHaveAsksForEveryPlace(t *testing.T) {
	for _, key := range append(edgeKeys(), someKeys(100, 6)...) {
		for hashes := 1; hashes <= 8; hashes++ {
			places := placesByHand(key, hashes)
			wantHas(t, "just its places", impl.Filter{Hashes: hashes, Bits: onlyAt(places...)}, key, true)
			wantHas(t, "all but its places", impl.Filter{Hashes: hashes, Bits: allBut(places...)}, key, false)
			for i, at := range places {
				others := slices.Delete(slices.Clone(places), i, i+1)
				wantHas(t, "all but a place", impl.Filter{Hashes: hashes, Bits: allBut(at), Many: 9}, key, false)
				wantHas(t, "its places but one", impl.Filter{Hashes: hashes, Bits: onlyAt(others...), Many: 9}, key, false)
			}
		}
	}
}

// With as many hashes as the filter has: what lies at a place behind these does not matter.
func TestMayHaveAsksForNoFurtherPlace(t *testing.T) {
	for _, key := range append(edgeKeys(), someKeys(100, 7)...) {
		places := placesByHand(key, 8)
		for hashes := 1; hashes < 8; hashes++ {
			wantHas(t, "without those behind", impl.Filter{Hashes: hashes, Bits: allBut(places[hashes:]...)}, key, true)
		}
	}
}

func TestMayHaveOfAnyFilter(t *testing.T) {
	yes, no := 0, 0
	for name, f := range manyFilters() {
		for _, key := range append(edgeKeys(), someKeys(300, 8)...) {
			want := hasByHand(f, key)
			wantHas(t, name, f, key, want)
			if want {
				yes++
			} else {
				no++
			}
		}
	}
	if yes < 500 || no < 500 {
		t.Errorf("%d keys are there, %d are not: the filters ask for too little", yes, no)
	}
}

// shuffled is the list in another order for each seed.
func shuffled[T any](l []T, seed int) []T {
	out := slices.Clone(l)
	for i := len(out) - 1; i > 0; i-- {
		at := (i*7919 + seed*104729) % (i + 1)
		out[i], out[at] = out[at], out[i]
	}
	return out
}

// Promise 5: whatever keys are put, in whatever order, each is said to be there from then on.
func TestWhatWasPutIsNeverSaidNotToBeThere(t *testing.T) {
	for hashes := 1; hashes <= 8; hashes++ {
		for seed := range 4 {
			keys := shuffled(append(edgeKeys()[:60], someKeys(100, seed)...), seed)
			f, _ := impl.NewFilter(hashes)
			for i, key := range keys {
				got, ok := impl.AddKey(f, key)
				wantFilter(t, "AddKey", got, ok, filterByHand(hashes, keys[:i+1]...))
				f = got
				for _, ahead := range keys[:i+1] {
					wantHas(t, "after a put", f, ahead, true)
				}
			}
			again, ok := impl.FilterOf(shuffled(keys, seed+9), hashes)
			wantFilter(t, "in another order", again, ok, f)
		}
	}
}

// A key that was not put may be said to be there; of few keys in all bits that is seldom so.
func TestWhatWasNotPutIsMostlySaidNotToBeThere(t *testing.T) {
	f, _ := impl.FilterOf(someKeys(20, 1), 4)
	wrong := 0
	for _, key := range someKeys(2000, 90) {
		if has, _ := impl.MayHave(f, key); has {
			wrong++
		}
	}
	if wrong > 100 {
		t.Errorf("%d of 2000 keys that were not put are said to be there", wrong)
	}
}

func TestFilterOfPutsEachKey(t *testing.T) {
	for hashes := 1; hashes <= 8; hashes++ {
		for _, n := range []int{0, 1, 2, 10, 60, 199, 200} {
			keys := someKeys(n, n)
			f, ok := impl.FilterOf(keys, hashes)
			wantFilter(t, fmt.Sprint("FilterOf of ", n), f, ok, filterByHand(hashes, keys...))
			step, _ := impl.NewFilter(hashes)
			for _, key := range keys {
				step, _ = impl.AddKey(step, key)
			}
			wantFilter(t, fmt.Sprint("one by one, of ", n), f, ok, step)
			for _, key := range keys {
				wantHas(t, fmt.Sprint("FilterOf of ", n), f, key, true)
			}
		}
	}
}

func TestAKeyThatComesTwiceIsCountedTwice(t *testing.T) {
	once, _ := impl.FilterOf([]string{"one"}, 3)
	for _, n := range []int{2, 3, 199, 200} {
		f, ok := impl.FilterOf(alike(n, "one"), 3)
		wantFilter(t, fmt.Sprint("one key ", n, " times"), f, ok, impl.Filter{Hashes: 3, Bits: once.Bits, Many: n})
	}
	f, ok := impl.FilterOf([]string{"one", "two", "one"}, 3)
	wantFilter(t, "one key twice, one between", f, ok, filterByHand(3, "one", "two", "one"))
}

func TestFilterOfRefusesWrongLists(t *testing.T) {
	for _, n := range []int{201, 202, 400} {
		f, ok := impl.FilterOf(someKeys(n, 1), 3)
		wantNoFilter(t, fmt.Sprint(n, " keys"), f, ok)
		f, ok = impl.FilterOf(alike(n, "one"), 3)
		wantNoFilter(t, fmt.Sprint("one key ", n, " times"), f, ok)
	}
	for _, key := range badKeys() {
		for _, n := range []int{1, 2, 5, 200} {
			for _, at := range []int{0, n / 2, n - 1} {
				keys := someKeys(n, 2)
				keys[at] = key
				f, ok := impl.FilterOf(keys, 3)
				wantNoFilter(t, fmt.Sprintf("key %d of %d is of %d bytes", at, n, len(key)), f, ok)
			}
		}
	}
	for _, hashes := range badHashes() {
		for _, n := range []int{0, 1, 200, 201} {
			f, ok := impl.FilterOf(someKeys(n, 3), hashes)
			wantNoFilter(t, fmt.Sprint(n, " keys, hashes ", hashes), f, ok)
		}
	}
}

func TestFilterOfNoKeysIsNew(t *testing.T) {
	for hashes := 1; hashes <= 8; hashes++ {
		for _, keys := range [][]string{nil, {}} {
			f, ok := impl.FilterOf(keys, hashes)
			wantFilter(t, "of no keys", f, ok, impl.Filter{Hashes: hashes, Bits: repeated(0, 32)})
		}
	}
}
