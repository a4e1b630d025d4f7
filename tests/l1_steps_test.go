package tests

import (
	"math"
	"slices"
	"testing"

	"loop.example/g00224/impl"
)

func TestNewDisk(t *testing.T) {
	for _, room := range []int{0, 1, 500, diskRoom} {
		d, ok := impl.NewDisk(room)
		if !ok || !sameDisk(d, impl.Disk{Room: room}) || !impl.GoodDisk(d) {
			t.Errorf("NewDisk(%d): %v %v", room, d, ok)
		}
	}
	for _, room := range []int{-1, diskRoom + 1, math.MinInt, math.MaxInt} {
		if d, ok := impl.NewDisk(room); ok || !isZeroDisk(d) {
			t.Errorf("NewDisk(%d): %v %v, want nothing", room, d, ok)
		}
	}
}

func TestCreatePutsAnEmptyBlobBehindAll(t *testing.T) {
	d := play(t, 100, create("b"), create("a"))
	wantDisk(t, d, impl.Disk{Blobs: []impl.Blob{{}, {}}, Live: []impl.Name{{Name: "a", Blob: 1}, {Name: "b", Blob: 0}}, Room: 100})
	wantRead(t, d, "a", "")
	wantNoSafe(t, d, "a")
	wantNames(t, d, "a", "b")
}

func TestCreateNeverTakesABlobThatLostItsName(t *testing.T) {
	d := play(t, 100, create("a"), appendTo("a", "old"), remove("a"), create("a"))
	wantDisk(t, d, impl.Disk{Blobs: []impl.Blob{{Data: "old"}, {}}, Live: []impl.Name{{Name: "a", Blob: 1}}, Room: 100})
	wantUsed(t, d, 0)
}

func TestAppendPutsDataBehind(t *testing.T) {
	d := play(t, 100, create("a"), create("b"), appendTo("b", "one"), syncFile("b"), appendTo("b", "two"), appendTo("b", ""))
	wantDisk(t, d, impl.Disk{Blobs: []impl.Blob{{}, {Data: "onetwo", Synced: 3}}, Live: []impl.Name{{Name: "a", Blob: 0}, {Name: "b", Blob: 1}}, Room: 100})
	wantRead(t, d, "b", "onetwo")
	wantRead(t, d, "a", "")
}

func TestSyncTakesAllOfTheBlob(t *testing.T) {
	d := play(t, 100, create("a"), create("b"), appendTo("a", "12"), appendTo("b", "345"), syncFile("b"))
	wantDisk(t, d, impl.Disk{Blobs: []impl.Blob{{Data: "12"}, {Data: "345", Synced: 3}}, Live: []impl.Name{{Name: "a", Blob: 0}, {Name: "b", Blob: 1}}, Room: 100})
}

func TestRename(t *testing.T) {
	d := play(t, 100, create("a"), appendTo("a", "one"), create("b"), appendTo("b", "two"))
	wantDisk(t, wantStep(t, d, rename("a", "c"), impl.DiskOk), impl.Disk{Blobs: d.Blobs, Live: []impl.Name{{Name: "b", Blob: 1}, {Name: "c", Blob: 0}}, Room: 100})
	over := wantStep(t, d, rename("a", "b"), impl.DiskOk)
	wantDisk(t, over, impl.Disk{Blobs: d.Blobs, Live: []impl.Name{{Name: "b", Blob: 0}}, Room: 100})
	wantRead(t, over, "b", "one")
	wantUsed(t, over, 3)
	wantDisk(t, wantStep(t, d, rename("a", "a"), impl.DiskOk), d)
}

func TestRenameBetweenTwoNamesOfOneBlob(t *testing.T) {
	d := play(t, 100, create("a"), appendTo("a", "one"), link("a", "b"), rename("a", "b"))
	wantDisk(t, d, impl.Disk{Blobs: []impl.Blob{{Data: "one"}}, Live: []impl.Name{{Name: "b"}}, Room: 100})
}

func TestLinkGivesASecondName(t *testing.T) {
	d := play(t, 100, create("b"), appendTo("b", "one"), link("b", "a"), appendTo("a", "two"))
	wantDisk(t, d, impl.Disk{Blobs: []impl.Blob{{Data: "onetwo"}}, Live: []impl.Name{{Name: "a"}, {Name: "b"}}, Room: 100})
	wantRead(t, d, "b", "onetwo")
	wantUsed(t, d, 6)
}

func TestRemove(t *testing.T) {
	d := play(t, 100, create("a"), appendTo("a", "one"), link("a", "b"), remove("a"))
	wantDisk(t, d, impl.Disk{Blobs: []impl.Blob{{Data: "one"}}, Live: []impl.Name{{Name: "b"}}, Room: 100})
	wantNoRead(t, d, "a")
	wantRead(t, d, "b", "one")
}

func TestNamesMakesLiveSafe(t *testing.T) {
	d := play(t, 100, create("a"), create("b"), syncNames(), remove("a"), rename("b", "c"))
	wantDisk(t, d, impl.Disk{Blobs: []impl.Blob{{}, {}}, Live: []impl.Name{{Name: "c", Blob: 1}}, Safe: []impl.Name{{Name: "a", Blob: 0}, {Name: "b", Blob: 1}}, Room: 100})
	wantNames(t, d, "c")
	d = wantStep(t, d, syncNames(), impl.DiskOk)
	wantDisk(t, d, impl.Disk{Blobs: []impl.Blob{{}, {}}, Live: []impl.Name{{Name: "c", Blob: 1}}, Safe: []impl.Name{{Name: "c", Blob: 1}}, Room: 100})
}

func TestUsedCountsEachNamedBlobOnce(t *testing.T) {
	d := play(t, 100, create("a"), appendTo("a", "1234"), link("a", "b"), syncNames(), link("a", "c"), create("d"), appendTo("d", "56789"))
	wantUsed(t, d, 9)
	d = play(t, 100, create("a"), appendTo("a", "1234"), syncNames(), remove("a"))
	wantUsed(t, d, 4)
	wantUsed(t, wantStep(t, d, syncNames(), impl.DiskOk), 0)
}

func TestSafeFileTellsSyncedBytesOfSafeNames(t *testing.T) {
	d := play(t, 100, create("a"), appendTo("a", "one"), syncFile("a"), appendTo("a", "two"), link("a", "b"), syncNames(), rename("a", "c"))
	wantSafe(t, d, "a", "one")
	wantSafe(t, d, "b", "one")
	wantNoSafe(t, d, "c")
	wantNoRead(t, d, "a")
	wantRead(t, d, "c", "onetwo")
}

func TestStepsThatHaveNoNameDoNotAskForOne(t *testing.T) {
	d := play(t, 100, create("a"))
	for _, kind := range []int{impl.DiskNames, impl.DiskCrash} {
		wantStep(t, d, impl.DiskStep{Kind: kind, Name: "NOT A NAME", Other: "NEITHER"}, impl.DiskOk)
		wantStep(t, d, impl.DiskStep{Kind: kind, Name: "missing"}, impl.DiskOk)
	}
	wantStep(t, d, impl.DiskStep{Kind: impl.DiskSync, Name: "a", Other: "NOT A NAME", Keep: -1}, impl.DiskOk)
}

func TestPlayGoesOnBehindARefusal(t *testing.T) {
	l := []impl.DiskStep{create("a"), create("a"), appendTo("b", "x"), {Kind: 9}, appendTo("a", "123456"), appendTo("a", "12345")}
	d, codes, ok := impl.PlayDisk(5, l)
	if want := []int{impl.DiskOk, impl.DiskTwice, impl.DiskName, impl.DiskBad, impl.DiskFull, impl.DiskOk}; !ok || !slices.Equal(codes, want) {
		t.Fatal(codes, ok)
	}
	wantDisk(t, d, impl.Disk{Blobs: []impl.Blob{{Data: "12345"}}, Live: []impl.Name{{Name: "a"}}, Room: 5})
}

func TestPlayIsDoDiskOfEach(t *testing.T) {
	l := []impl.DiskStep{create("a"), appendTo("a", "one"), syncFile("a"), link("a", "b"), syncNames(), appendTo("b", "two"), rename("a", "c"), remove("x"), crash(1), appendTo("a", "!")}
	d, _ := impl.NewDisk(50)
	for n, s := range l {
		d, _ = impl.DoDisk(d, s)
		got, codes, ok := impl.PlayDisk(50, l[:n+1])
		if !ok || len(codes) != n+1 || !sameDisk(got, d) {
			t.Errorf("after %d steps: %v %v %v, want %v", n+1, got, codes, ok, d)
		}
	}
}

func TestPlayLimits(t *testing.T) {
	var l []impl.DiskStep
	for range impl.MaxDiskSteps {
		l = append(l, syncNames())
	}
	if d, codes, ok := impl.PlayDisk(diskRoom, l); !ok || len(codes) != 100 || d.Room != diskRoom {
		t.Error(len(codes), ok)
	}
	if d, codes, ok := impl.PlayDisk(7, append(l, syncNames())); ok || len(codes) != 0 || !isZeroDisk(d) {
		t.Error("101 steps:", d, codes, ok)
	}
	if d, codes, ok := impl.PlayDisk(0, nil); !ok || len(codes) != 0 || !isZeroDisk(d) {
		t.Error("no steps:", d, codes, ok)
	}
	for _, room := range []int{-1, diskRoom + 1, math.MinInt, math.MaxInt} {
		if d, codes, ok := impl.PlayDisk(room, l[:1]); ok || len(codes) != 0 || !isZeroDisk(d) {
			t.Error("room", room, d, codes, ok)
		}
	}
}

func TestLimitOfNamesInLive(t *testing.T) {
	d := impl.Disk{Blobs: []impl.Blob{{Data: "x"}}, Live: manyNames(impl.MaxFiles - 1), Room: 10}
	linked := wantStep(t, d, link("n00", "last"), impl.DiskOk)
	created := wantStep(t, d, create("last"), impl.DiskOk)
	for _, full := range []impl.Disk{linked, created} {
		if len(full.Live) != 20 || !impl.GoodDisk(full) {
			t.Fatal("20 names do not fit:", full)
		}
		wantStep(t, full, link("n00", "more"), impl.DiskFull)
		wantStep(t, full, create("more"), impl.DiskFull)
		wantStep(t, full, rename("n00", "more"), impl.DiskOk)
		wantStep(t, full, syncNames(), impl.DiskOk)
	}
}

func TestLimitOfBlobs(t *testing.T) {
	d := impl.Disk{Blobs: make([]impl.Blob, diskBlobs-1), Room: 10}
	d = wantStep(t, d, create("a"), impl.DiskOk)
	if len(d.Blobs) != 60 || !impl.GoodDisk(d) {
		t.Fatal("60 blobs do not fit:", len(d.Blobs))
	}
	wantStep(t, d, create("b"), impl.DiskFull)
	d = wantStep(t, d, remove("a"), impl.DiskOk)
	wantStep(t, d, create("a"), impl.DiskFull)
}

func TestLimitOfBytesInABlob(t *testing.T) {
	d := play(t, diskRoom, create("a"), appendTo("a", sized(impl.MaxFile)))
	wantRead(t, d, "a", sized(4000))
	wantStep(t, d, appendTo("a", "x"), impl.DiskFull)
	wantStep(t, d, appendTo("a", ""), impl.DiskOk)
	d = play(t, diskRoom, create("a"), appendTo("a", sized(3000)), appendTo("a", sized(1000)))
	wantStep(t, d, appendTo("a", sized(impl.MaxFile)), impl.DiskFull)
	wantStep(t, d, appendTo("a", sized(impl.MaxFile+1)), impl.DiskBad)
}

func TestLimitOfRoom(t *testing.T) {
	d := play(t, 10, create("a"), appendTo("a", sized(4)), create("b"), appendTo("b", sized(6)))
	wantUsed(t, d, 10)
	wantStep(t, d, appendTo("a", "x"), impl.DiskFull)
	wantStep(t, d, link("a", "c"), impl.DiskOk)
	wantStep(t, d, create("c"), impl.DiskOk)
	none := play(t, 0, create("a"), appendTo("a", ""), syncFile("a"))
	wantStep(t, none, appendTo("a", "x"), impl.DiskFull)
}

// fullDisk has 25 blobs of 4000 bytes, the first 19 live and the others safe, and an empty one that is live.
func fullDisk() impl.Disk {
	d := impl.Disk{Blobs: make([]impl.Blob, 26), Live: manyNames(20), Safe: manyNames(6), Room: diskRoom}
	for i := range 25 {
		d.Blobs[i].Data = sized(impl.MaxFile)
	}
	for i := range d.Live {
		d.Live[i].Blob = i
	}
	for i := range d.Safe {
		d.Safe[i].Blob = 19 + i
	}
	d.Live[19].Blob = 25
	return d
}

func TestGreatestRoomCanBeFilled(t *testing.T) {
	d := fullDisk()
	wantUsed(t, d, diskRoom)
	wantStep(t, d, appendTo("n19", ""), impl.DiskOk)
	wantStep(t, d, appendTo("n19", "x"), impl.DiskFull)
	d.Blobs[24].Data = sized(impl.MaxFile - 1)
	wantStep(t, d, appendTo("n19", "xx"), impl.DiskFull)
	wantUsed(t, wantStep(t, d, appendTo("n19", "x"), impl.DiskOk), diskRoom)
}

func TestSafeNamesKeepTheirRoom(t *testing.T) {
	d := play(t, 10, create("a"), appendTo("a", sized(8)), syncNames(), remove("a"), create("a"))
	wantStep(t, d, appendTo("a", "123"), impl.DiskFull)
	wantStep(t, d, appendTo("a", "12"), impl.DiskOk)
	d = wantStep(t, d, syncNames(), impl.DiskOk)
	wantStep(t, d, appendTo("a", sized(10)), impl.DiskOk)
}

func TestNamesThatAreNone(t *testing.T) {
	d := play(t, 100, create("a"), create("0.z9"), create("abcdefghi.12"), create("."))
	wantNames(t, d, ".", "0.z9", "a", "abcdefghi.12")
	for _, bad := range []string{"", "abcdefghijklm", "A", "a_", "a b", "a/b", "-", "`", "{", ":", "/", "a\x00", "ä", "\xff", "a\n"} {
		for _, s := range []impl.DiskStep{create(bad), appendTo(bad, "x"), syncFile(bad), rename(bad, "b"), rename("a", bad), link(bad, "b"), link("a", bad), remove(bad)} {
			wantStep(t, d, s, impl.DiskBad)
		}
		wantNoRead(t, d, bad)
		wantNoSafe(t, d, bad)
	}
}

func TestKindsThatAreNone(t *testing.T) {
	d := play(t, 100, create("a"))
	for _, kind := range []int{0, -1, 9, 10, math.MinInt, math.MaxInt} {
		wantStep(t, d, impl.DiskStep{Kind: kind, Name: "a", Other: "b"}, impl.DiskBad)
	}
}

func TestDataThatIsTooLong(t *testing.T) {
	d := play(t, diskRoom, create("a"))
	for kind := impl.DiskCreate; kind <= impl.DiskCrash; kind++ {
		wantStep(t, d, impl.DiskStep{Kind: kind, Name: "a", Other: "b", Data: sized(impl.MaxFile + 1)}, impl.DiskBad)
	}
}

func TestNamesThatAreMissing(t *testing.T) {
	d := play(t, 100, create("a"), syncNames(), create("b"), remove("a"))
	for _, missing := range []string{"a", "c"} {
		for _, s := range []impl.DiskStep{appendTo(missing, "x"), syncFile(missing), rename(missing, "z"), rename(missing, missing), link(missing, "z"), remove(missing)} {
			wantStep(t, d, s, impl.DiskName)
		}
	}
}

func TestNamesThatAreTaken(t *testing.T) {
	d := play(t, 100, create("a"), create("b"), syncNames(), remove("b"))
	wantStep(t, d, create("a"), impl.DiskTwice)
	wantStep(t, d, link("a", "a"), impl.DiskTwice)
	wantStep(t, d, create("b"), impl.DiskOk)
	wantStep(t, d, link("a", "b"), impl.DiskOk)
	wantStep(t, wantStep(t, d, create("b"), impl.DiskOk), link("a", "b"), impl.DiskTwice)
}

func TestOrderOfCodes(t *testing.T) {
	full := impl.Disk{Blobs: make([]impl.Blob, diskBlobs), Live: manyNames(impl.MaxFiles)}
	cases := []struct {
		step impl.DiskStep
		want int
	}{
		{appendTo("missing", sized(impl.MaxFile+1)), impl.DiskBad},
		{impl.DiskStep{Kind: 9, Name: "missing"}, impl.DiskBad},
		{rename("missing", "NONE"), impl.DiskBad},
		{link("missing", "NONE"), impl.DiskBad},
		{link("NONE", "n00"), impl.DiskBad},
		{impl.DiskStep{Kind: impl.DiskCreate, Name: "n00", Data: sized(impl.MaxFile + 1)}, impl.DiskBad},
		{appendTo("n00", sized(impl.MaxFile+1)), impl.DiskBad},
		{link("missing", "n00"), impl.DiskName},
		{link("missing", "new"), impl.DiskName},
		{appendTo("missing", "x"), impl.DiskName},
		{create("n00"), impl.DiskTwice},
		{link("n00", "n01"), impl.DiskTwice},
		{create("new"), impl.DiskFull},
		{link("n00", "new"), impl.DiskFull},
		{appendTo("n00", "x"), impl.DiskFull},
	}
	for _, c := range cases {
		wantStep(t, full, c.step, c.want)
	}
}
