package tests

import (
	"math"
	"slices"
	"strings"
	"testing"

	"loop.example/g00224/impl"
)

func TestSyncedUnderASafeNameOutlivesACrash(t *testing.T) {
	d := play(t, 100, create("a"), appendTo("a", "hello"), syncFile("a"), syncNames(), appendTo("a", " world"))
	for keep := range 13 {
		after := wantStep(t, d, crash(keep), impl.DiskOk)
		want := "hello world"[:min(11, 5+keep)]
		wantDisk(t, after, impl.Disk{Blobs: []impl.Blob{{Data: want, Synced: len(want)}}, Live: []impl.Name{{Name: "a"}}, Safe: []impl.Name{{Name: "a"}}, Room: 100})
		wantRead(t, after, "a", want)
		wantSafe(t, after, "a", want)
		wantUsed(t, after, len(want))
		wantDisk(t, wantStep(t, after, crash(0), impl.DiskOk), after)
	}
}

func TestKeepLimits(t *testing.T) {
	d := play(t, diskRoom, create("a"), syncNames(), appendTo("a", sized(impl.MaxFile)))
	wantRead(t, wantStep(t, d, crash(0), impl.DiskOk), "a", "")
	wantRead(t, wantStep(t, d, crash(impl.MaxFile-1), impl.DiskOk), "a", sized(3999))
	wantRead(t, wantStep(t, d, crash(impl.MaxFile), impl.DiskOk), "a", sized(4000))
	for _, keep := range []int{-1, impl.MaxFile + 1, math.MinInt, math.MaxInt} {
		wantStep(t, d, crash(keep), impl.DiskBad)
	}
	synced := wantStep(t, d, syncFile("a"), impl.DiskOk)
	wantRead(t, wantStep(t, synced, crash(impl.MaxFile), impl.DiskOk), "a", sized(4000))
}

func TestCrashAheadOfNamesUndoesARenaming(t *testing.T) {
	d := play(t, 100, create("a"), appendTo("a", "new"), syncFile("a"), create("b"), appendTo("b", "old"), syncFile("b"), syncNames(), rename("a", "b"))
	wantRead(t, d, "b", "new")
	wantNoRead(t, d, "a")
	undone := wantStep(t, d, crash(0), impl.DiskOk)
	wantRead(t, undone, "a", "new")
	wantRead(t, undone, "b", "old")
	kept := wantStep(t, wantStep(t, d, syncNames(), impl.DiskOk), crash(0), impl.DiskOk)
	wantNoRead(t, kept, "a")
	wantRead(t, kept, "b", "new")
	wantNames(t, kept, "b")
}

func TestCrashAheadOfNamesUndoesANewNameALinkAndARemoval(t *testing.T) {
	d := play(t, 100, create("a"), appendTo("a", "one"), syncFile("a"), syncNames(), create("b"), appendTo("b", "two"), syncFile("b"), link("a", "c"), remove("a"))
	wantNames(t, d, "b", "c")
	undone := wantStep(t, d, crash(impl.MaxFile), impl.DiskOk)
	wantNames(t, undone, "a")
	wantRead(t, undone, "a", "one")
	wantNoRead(t, undone, "b")
	wantNoRead(t, undone, "c")
	kept := wantStep(t, wantStep(t, d, syncNames(), impl.DiskOk), crash(0), impl.DiskOk)
	wantNames(t, kept, "b", "c")
	wantRead(t, kept, "b", "two")
	wantRead(t, kept, "c", "one")
}

func TestASyncOfAFileDoesNotMakeItsNameSafe(t *testing.T) {
	d := play(t, 100, create("a"), appendTo("a", "one"), syncFile("a"))
	wantNoSafe(t, d, "a")
	wantNames(t, wantStep(t, d, crash(impl.MaxFile), impl.DiskOk))
}

func TestASafeNameDoesNotNeedASyncOfItsFile(t *testing.T) {
	d := play(t, 100, create("a"), appendTo("a", "one"), syncNames())
	wantSafe(t, d, "a", "")
	wantRead(t, wantStep(t, d, crash(0), impl.DiskOk), "a", "")
	wantRead(t, wantStep(t, d, crash(2), impl.DiskOk), "a", "on")
}

func TestCrashTakesOfEachBlobAlsoWithoutAName(t *testing.T) {
	d := impl.Disk{
		Blobs: []impl.Blob{{Data: "abcdef", Synced: 2}, {Data: "ghij", Synced: 4}, {Data: "klmno"}, {Data: "p", Synced: 1}},
		Live:  []impl.Name{{Name: "x", Blob: 2}},
		Safe:  []impl.Name{{Name: "y", Blob: 1}, {Name: "z", Blob: 0}},
		Room:  20,
	}
	wantDisk(t, wantStep(t, d, crash(3), impl.DiskOk), impl.Disk{
		Blobs: []impl.Blob{{Data: "abcde", Synced: 5}, {Data: "ghij", Synced: 4}, {Data: "klm", Synced: 3}, {Data: "p", Synced: 1}},
		Live:  d.Safe,
		Safe:  d.Safe,
		Room:  20,
	})
}

func TestWhatHasNoRoomIsBackAfterACrash(t *testing.T) {
	d := play(t, 5, create("a"), appendTo("a", "12345"), syncNames(), crash(1))
	wantUsed(t, d, 1)
	wantStep(t, d, appendTo("a", "2345"), impl.DiskOk)
	wantStep(t, d, appendTo("a", "23456"), impl.DiskFull)
}

// diskWords are steps that meet one another on few names, so that short plays of them reach every kind of disk.
func diskWords() []impl.DiskStep {
	return []impl.DiskStep{
		create("a"), create("b"), appendTo("a", "12"), appendTo("b", "345"), syncFile("a"), syncFile("b"),
		rename("a", "b"), rename("b", "a"), link("a", "b"), remove("a"), syncNames(), crash(0), crash(1), crash(impl.MaxFile),
	}
}

// TestPromiseOneInAllShortPlays asks for the promise at every step of every play of these words up to a length, from two disks on.
func TestPromiseOneInAllShortPlays(t *testing.T) {
	walkDisk(t, play(t, 7), 4)
	walkDisk(t, play(t, 9, create("a"), appendTo("a", "12"), syncFile("a"), syncNames(), appendTo("a", "3"), create("b")), 4)
}

func walkDisk(t *testing.T, d impl.Disk, left int) {
	if left == 0 || t.Failed() {
		return
	}
	for _, s := range diskWords() {
		arg := roomyDisk(d)
		next, code := impl.DoDisk(arg, s)
		checkStep(t, d, s, next, code)
		if !untouched(arg, d) {
			t.Errorf("%v writes into %v", s, d)
		}
		walkDisk(t, next, left-1)
	}
}

func checkStep(t *testing.T, d impl.Disk, s impl.DiskStep, next impl.Disk, code int) {
	t.Helper()
	switch {
	case !impl.GoodDisk(next):
		t.Errorf("%v of %v is not good: %v", s, d, next)
	case code != impl.DiskOk && !sameDisk(next, d):
		t.Errorf("%v of %v is refused with %d, and changes it: %v", s, d, code, next)
	case s.Kind == impl.DiskCrash:
		checkCrash(t, d, s.Keep, next, code)
	case s.Kind == impl.DiskNames && !slices.Equal(next.Safe, d.Live):
		t.Errorf("names of %v: %v", d, next)
	case s.Kind != impl.DiskNames && !slices.Equal(next.Safe, d.Safe):
		t.Errorf("%v of %v changes what is safe: %v", s, d, next)
	}
}

func checkCrash(t *testing.T, d impl.Disk, keep int, next impl.Disk, code int) {
	t.Helper()
	if code != impl.DiskOk || !slices.Equal(next.Live, d.Safe) || !slices.Equal(next.Safe, d.Safe) || len(next.Blobs) != len(d.Blobs) {
		t.Errorf("crash %d of %v: %v, %d", keep, d, next, code)
		return
	}
	for _, n := range d.Safe {
		safe, _ := impl.SafeFile(d, n.Name)
		got, ok := impl.ReadFile(next, n.Name)
		if !ok || !strings.HasPrefix(got, safe) || len(got) > len(safe)+keep || !strings.HasPrefix(d.Blobs[n.Blob].Data, got) {
			t.Errorf("crash %d of %v: %q is %q", keep, d, n.Name, got)
		}
	}
	for _, b := range next.Blobs {
		if b.Synced != len(b.Data) {
			t.Errorf("crash %d of %v: not all is synced: %v", keep, d, next)
		}
	}
}
