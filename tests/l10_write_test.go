package tests

import (
	"fmt"
	"slices"
	"testing"

	"loop.example/g00224/impl"
)

func TestWritesByHand(t *testing.T) {
	e, ok := impl.WriteBatch(impl.NewEngine(), []impl.Write{setTo("a", "1"), setTo("b", "2"), unset("a")})
	wantEngine(t, "three", e, ok, keptIn(3, 1).withMem(put("a", 1, "1"), put("b", 2, "2"), gone("a", 3)))
	e, ok = impl.WriteBatch(e, []impl.Write{setTo("a", "")})
	wantEngine(t, "one more", e, ok, keptIn(4, 1).withMem(put("a", 1, "1"), put("b", 2, "2"), gone("a", 3), put("a", 4, "")))
	k := keptIn(7, 5, held(2, 1, put("a", 6, "x"))).withMem(put("z", 3, "y"))
	wantWritten(t, "beside a table", k, []impl.Write{unset("a"), unset("q")}, keptIn(9, 5, held(2, 1, put("a", 6, "x"))).withMem(put("z", 3, "y"), gone("a", 8), gone("q", 9)))
}

func TestHowManyWritesABatchHas(t *testing.T) {
	for n, good := range map[int]bool{0: false, 1: true, 2: true, 19: true, 20: true, 21: false, 22: false, 60: false, 1000: false} {
		for _, k := range []kept{newKept(), fairKept(), keptIn(9, 2, held(1, 0, rowOfItems(120, 3)...))} {
			if checkWritten(t, fmt.Sprint(n, " writes"), k, rowOfWrites(n)) != good {
				t.Errorf("%d writes: by hand %v", n, !good)
			}
		}
	}
	wantNotWritten(t, "no writes, nil", newKept(), nil)
	wantNotWritten(t, "no writes, not nil", newKept(), []impl.Write{})
}

func TestKeysAndValuesOfWrites(t *testing.T) {
	for size, good := range map[int]bool{0: false, 1: true, 2: true, 15: true, 16: true, 17: false, 300: false} {
		for _, key := range []string{sized(size), repeated(0, size), repeated(0xff, size), mixed(size, 3)} {
			for _, w := range []impl.Write{setTo(key, "v"), setTo(key, ""), unset(key)} {
				if checkWritten(t, fmt.Sprintf("key of %d", size), fairKept(), []impl.Write{w}) != good {
					t.Errorf("key of %d: by hand %v", size, !good)
				}
			}
		}
	}
	for size, good := range map[int]bool{0: true, 1: true, 39: true, 40: true, 41: false, 42: false, 5000: false} {
		for _, value := range []string{sized(size), repeated(0, size), mixed(size, 3)} {
			if checkWritten(t, fmt.Sprintf("value of %d", size), fairKept(), []impl.Write{setTo("k", value)}) != good {
				t.Errorf("value of %d: by hand %v", size, !good)
			}
		}
	}
}

// badWrites miss one condition each.
func badWrites() map[string]impl.Write {
	return map[string]impl.Write{
		"zero":                    {},
		"no key":                  setTo("", "v"),
		"no key, deleted":         unset(""),
		"key of 17":               setTo(sized(17), "v"),
		"key of 17, deleted":      unset(sized(17)),
		"value of 41":             setTo("k", sized(41)),
		"deleted, with a value":   {Key: "k", Value: "v", Delete: true},
		"deleted, with a nought":  {Key: "k", Value: "\x00", Delete: true},
		"deleted, with 40 bytes":  {Key: "k", Value: sized(40), Delete: true},
		"deleted, with too many":  {Key: "k", Value: sized(41), Delete: true},
		"deleted, with all wrong": {Key: "", Value: sized(41), Delete: true},
	}
}

// One that is wrong is enough, wherever it stands.
func TestWritesThatAreNone(t *testing.T) {
	for fault, w := range badWrites() {
		for _, n := range []int{1, 2, 3, 20} {
			for at := range n {
				l := rowOfWrites(n)
				l[at] = w
				wantNotWritten(t, fmt.Sprintf("%s, %d of %d", fault, at, n), newKept(), l)
				wantNotWritten(t, fmt.Sprintf("%s, %d of %d", fault, at, n), fairKept(), l)
			}
		}
	}
}

func TestOneKeySeveralTimesInABatch(t *testing.T) {
	l := []impl.Write{setTo("k", "1"), unset("k"), unset("k"), setTo("k", "2"), setTo("a", "x"), setTo("k", "2"), setTo("k", ""), unset("k"), setTo("k", "3")}
	want := keptIn(9, 1).withMem(put("k", 1, "1"), gone("k", 2), gone("k", 3), put("k", 4, "2"), put("a", 5, "x"), put("k", 6, "2"), put("k", 7, ""), gone("k", 8), put("k", 9, "3"))
	wantWritten(t, "one key", newKept(), l, want)
	e, _ := impl.WriteBatch(impl.NewEngine(), l)
	for seq := range 10 {
		wantGot(t, "one key", e, want.mem, "k", seq)
	}
	if value, has, ok := impl.GetKey(e, "k", 9); value != "3" || !has || !ok {
		t.Errorf("the last of one key: %q %v %v", value, has, ok)
	}
	for n := range 20 {
		checkWritten(t, "one key alone", fairKept(), slices.Repeat([]impl.Write{setTo("b", fmt.Sprint(n))}, n+1))
		checkWritten(t, "one key deleted alone", fairKept(), slices.Repeat([]impl.Write{unset("b")}, n+1))
	}
}

func TestNoWriteGoesBeyondTheGreatestSeq(t *testing.T) {
	for n := 1; n <= 20; n++ {
		for _, left := range []int{0, 1, n - 1, n, n + 1, 20} {
			k := keptIn(greatestSeq-left, 2, held(1, 1, put("z", greatestSeq-left, "x"))).withMem(put("y", 0, "y"))
			if checkWritten(t, fmt.Sprint(n, " writes with ", left, " left"), k, rowOfWrites(n)) != (n <= left) {
				t.Errorf("%d writes with %d left: by hand %v", n, left, n > left)
			}
		}
	}
	wantWritten(t, "the last Seq", keptIn(greatestSeq-1, 1), []impl.Write{setTo("k", "v")}, keptIn(greatestSeq, 1).withMem(put("k", greatestSeq, "v")))
	wantNotWritten(t, "beyond the last Seq", keptIn(greatestSeq, 1), []impl.Write{setTo("k", "v")})
}

func TestNoMoreThanMemMayHaveIsWritten(t *testing.T) {
	for _, there := range []int{0, 39, 40, 41, 58, 59, 60} {
		for _, n := range []int{1, 2, 19, 20} {
			k := keptIn(2000000, 1).withMem(someItems(there, 9)...)
			if checkWritten(t, fmt.Sprint(n, " writes to ", there), k, rowOfWrites(n)) != (there+n <= 60) {
				t.Errorf("%d writes to %d: by hand %v", n, there, there+n > 60)
			}
		}
	}
}

func TestNoMoreThanAnEngineMayHaveIsWritten(t *testing.T) {
	for _, there := range []int{378, 379, 380, 381, 398, 399, 400} {
		k := keptIn(9, 9, held(1, 0, rowOfItems(120, 1)...), held(2, 0, rowOfItems(120, 2)...), held(3, 1, rowOfItems(120, 3)...), held(5, 3, rowOfItems(there-360, 4)...))
		for _, n := range []int{1, 2, 19, 20} {
			if checkWritten(t, fmt.Sprint(n, " writes to ", there), k, rowOfWrites(n)) != (there+n <= 400) {
				t.Errorf("%d writes to %d: by hand %v", n, there, there+n > 400)
			}
		}
	}
}

// Whatever else an engine has stays as it was.
func TestWritesToManyEngines(t *testing.T) {
	for name, k := range manyKept() {
		for n := range 22 {
			checkWritten(t, name, k, dealingOf(n).writes(n))
		}
	}
}

// One by one or all at once: the engine is the same.
func TestWritesOneByOne(t *testing.T) {
	for seed := range 20 {
		l := dealingOf(seed).writes(20)
		all, _ := impl.WriteBatch(impl.NewEngine(), l)
		one := impl.NewEngine()
		for _, w := range l {
			one, _ = impl.WriteBatch(one, []impl.Write{w})
		}
		if !sameEngine(all, one) || all.Seq != 20 {
			t.Errorf("seed %d: %s all at once, %s one by one", seed, briefly(all), briefly(one))
		}
	}
}

// What is refused may be put in smaller parts.
func TestARefusedBatchLeavesTheEngine(t *testing.T) {
	k := keptIn(2000000, 1).withMem(someItems(55, 9)...)
	e := k.engine()
	got, ok := impl.WriteBatch(e, rowOfWrites(6))
	wantNoEngine(t, "six for five", got, ok)
	if !sameEngine(e, k.engine()) {
		t.Error("the engine is changed by what is refused")
	}
	want, _ := k.written(rowOfWrites(5)...)
	got, ok = impl.WriteBatch(e, rowOfWrites(5))
	wantEngine(t, "five for five", got, ok, want)
}
