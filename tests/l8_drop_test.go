package tests

import (
	"slices"
	"testing"

	"loop.example/g00224/impl"
)

func TestLeftByHand(t *testing.T) {
	l := seenRun()
	wantLeft(t, "below all", l, 0, false, l...)
	wantLeft(t, "below all but one that is deleted", l, 0, true, slices.Concat(l[:8], l[9:])...)
	wantLeft(t, "between", l, 6, false,
		put("a", 9, "a9"), gone("a", 7), put("a", 5, "a5"), gone("b", 8), put("b", 6, "b6"), put("c", 3, ""), put("ca", 4, "ca4"), gone("d", 1))
	wantLeft(t, "between, at the bottom", l, 6, true,
		put("a", 9, "a9"), gone("a", 7), put("a", 5, "a5"), gone("b", 8), put("b", 6, "b6"), put("c", 3, ""), put("ca", 4, "ca4"))
	wantLeft(t, "at a deletion", l, 7, false,
		put("a", 9, "a9"), gone("a", 7), gone("b", 8), put("b", 6, "b6"), put("c", 3, ""), put("ca", 4, "ca4"), gone("d", 1))
	wantLeft(t, "at a deletion, at the bottom", l, 7, true,
		put("a", 9, "a9"), gone("b", 8), put("b", 6, "b6"), put("c", 3, ""), put("ca", 4, "ca4"))
	wantLeft(t, "above all", l, 9, false, put("a", 9, "a9"), gone("b", 8), put("c", 3, ""), put("ca", 4, "ca4"), gone("d", 1))
	wantLeft(t, "above all, at the bottom", l, 9, true, put("a", 9, "a9"), put("c", 3, ""), put("ca", 4, "ca4"))
	wantLeft(t, "far above all", l, greatestSeq, true, put("a", 9, "a9"), put("c", 3, ""), put("ca", 4, "ca4"))
}

// At the bottom what is deleted goes though others of the key stay, and all below it goes as well.
func TestDeletionsAtTheBottomGo(t *testing.T) {
	l := []impl.Item{put("k", 9, "new"), gone("k", 7), gone("k", 5), put("k", 3, "old"), gone("k", 1)}
	wantLeft(t, "others stay", l, 8, true, l[0])
	wantLeft(t, "others stay", l, 7, true, l[0])
	wantLeft(t, "deletions above stay", l, 6, true, l[0], l[1])
	wantLeft(t, "deletions above stay, and what is put", l, 4, true, l[0], l[1], l[2], l[3])
	wantLeft(t, "the last goes", l, 1, true, l[:4]...)
	wantLeft(t, "none goes", l, 0, true, l...)
	wantLeft(t, "all go", l[1:], 9, true)
	wantLeft(t, "one deleted", []impl.Item{gone("k", 0)}, 0, true)
	wantLeft(t, "one deleted, not at the bottom", []impl.Item{gone("k", 0)}, 0, false, gone("k", 0))
	wantLeft(t, "one put", []impl.Item{put("k", 0, "")}, 0, true, put("k", 0, ""))
}

func TestLeftOfRuns(t *testing.T) {
	for name, l := range manySeen() {
		for _, seq := range askedSeqs(l) {
			wantLeft(t, name, l, seq, false, leftByHand(l, seq, false)...)
			wantLeft(t, name, l, seq, true, leftByHand(l, seq, true)...)
		}
	}
}

func TestLeftOfAllFewItems(t *testing.T) {
	for _, l := range tellings() {
		for seq := range 5 {
			wantLeft(t, "few", l, seq, false, leftByHand(l, seq, false)...)
			wantLeft(t, "few", l, seq, true, leftByHand(l, seq, true)...)
		}
	}
}

// Promise 8: at the Seq and at every later one nobody sees what is gone.
func TestWhatNobodySeesMayGo(t *testing.T) {
	for name, l := range manySeen() {
		seqs := askedSeqs(l)
		step := len(seqs)/12 + 1
		for i := 0; i < len(seqs); i += step {
			for _, bottom := range []bool{false, true} {
				left, ok := impl.DropShadowed(impl.Run{Items: l}, seqs[i], bottom)
				if !ok || !impl.GoodRun(left.Items) {
					t.Fatalf("%s: %s is no run", name, shown(left))
				}
				for j := i; j < len(seqs); j += max(step/2, 1) {
					before, _ := impl.VisibleAt(impl.Run{Items: l}, seqs[j])
					after, _ := impl.VisibleAt(left, seqs[j])
					if !slices.Equal(before, after) {
						t.Errorf("%s: dropped at %d, %v, seen at %d: %s, before %s", name, seqs[i], bottom, seqs[j], shown(after), shown(before))
					}
				}
			}
		}
	}
}

func TestWhatNobodySeesOfFewMayGo(t *testing.T) {
	for _, l := range tellings() {
		for seq := range 5 {
			for _, bottom := range []bool{false, true} {
				left, _ := impl.DropShadowed(impl.Run{Items: l}, seq, bottom)
				for later := seq; later < 5; later++ {
					wantVisible(t, "few, after", left.Items, later, pairsByHand(l, "", "", later)...)
				}
			}
		}
	}
}

// Not at the bottom a deletion is still told of, so that it hides what lies in older runs.
func TestDeletionsAreStillTold(t *testing.T) {
	for name, l := range manySeen() {
		for _, seq := range []int{0, 5, 7, 30, greatestSeq} {
			left, _ := impl.DropShadowed(impl.Run{Items: l}, seq, false)
			for _, key := range keysByHand(l) {
				checked, found := seenByHand(l, key, seq)
				if found {
					wantLook(t, name, left.Items, key, seq, checked.Value, checked.Kind)
				}
			}
		}
	}
}

// What is left is left again, and at a later Seq it is what would be left at once.
func TestDroppingTwice(t *testing.T) {
	for name, l := range manySeen() {
		for _, bottom := range []bool{false, true} {
			for _, seq := range []int{0, 5, 7, 30, 1000} {
				once, _ := impl.DropShadowed(impl.Run{Items: l}, seq, bottom)
				wantLeft(t, name+", again", once.Items, seq, bottom, once.Items...)
				wantLeft(t, name+", later", once.Items, seq+20, bottom, leftByHand(l, seq+20, bottom)...)
			}
		}
	}
}
