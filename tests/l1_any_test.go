package tests

import (
	"math"
	"slices"
	"testing"

	"loop.example/g00224/impl"
)

// fairDisk has something in each list, and names that are in one list alone.
func fairDisk() impl.Disk {
	return impl.Disk{
		Blobs: []impl.Blob{{Data: "abc", Synced: 2}, {Data: "de"}, {Data: "fghi", Synced: 4}},
		Live:  []impl.Name{{Name: "a", Blob: 1}, {Name: "b", Blob: 0}},
		Safe:  []impl.Name{{Name: "b", Blob: 0}, {Name: "c", Blob: 0}},
		Room:  5,
	}
}

// badDisks are fair disks with one fault each.
func badDisks() map[string]impl.Disk {
	out := map[string]impl.Disk{}
	add := func(fault string, change func(d *impl.Disk)) {
		d := fairDisk()
		change(&d)
		out[fault] = d
	}
	add("61 blobs", func(d *impl.Disk) { d.Blobs = append(d.Blobs, make([]impl.Blob, 58)...) })
	add("a blob of 4001 bytes", func(d *impl.Disk) { d.Blobs[2].Data = sized(4001) })
	add("a last blob of 4001 bytes that has a name", func(d *impl.Disk) { d.Blobs[1].Data, d.Room = sized(4001), diskRoom })
	add("synced below 0", func(d *impl.Disk) { d.Blobs[1].Synced = -1 })
	add("synced very low", func(d *impl.Disk) { d.Blobs[2].Synced = math.MinInt })
	add("synced beyond", func(d *impl.Disk) { d.Blobs[0].Synced = 4 })
	add("synced very great", func(d *impl.Disk) { d.Blobs[2].Synced = math.MaxInt })
	add("21 live names", func(d *impl.Disk) { d.Live = manyNames(21) })
	add("21 safe names", func(d *impl.Disk) { d.Safe = manyNames(21) })
	add("room below 0", func(d *impl.Disk) { d.Room = -1 })
	add("room below 0, no names", func(d *impl.Disk) { d.Live, d.Safe, d.Room = nil, nil, -1 })
	add("room of 100001", func(d *impl.Disk) { d.Room = 100001 })
	add("room very great", func(d *impl.Disk) { d.Room = math.MaxInt })
	add("room very low", func(d *impl.Disk) { d.Room = math.MinInt })
	add("room exceeded by one", func(d *impl.Disk) { d.Room = 4 })
	add("room exceeded by safe names", func(d *impl.Disk) { d.Live, d.Room = nil, 2 })
	add("room exceeded by live names", func(d *impl.Disk) { d.Safe, d.Room = nil, 4 })
	add("a name without blobs", func(d *impl.Disk) { d.Blobs = nil })
	lists := map[string]func(d *impl.Disk) []impl.Name{
		"live": func(d *impl.Disk) []impl.Name { return d.Live },
		"safe": func(d *impl.Disk) []impl.Name { return d.Safe },
	}
	for which, of := range lists {
		add(which+" falls", func(d *impl.Disk) { slices.Reverse(of(d)) })
		add(which+" has two alike", func(d *impl.Disk) { of(d)[0].Name = of(d)[1].Name })
		add(which+" has an empty name", func(d *impl.Disk) { of(d)[0].Name = "" })
		add(which+" has a name of 13 bytes", func(d *impl.Disk) { of(d)[1].Name = "xbcdefghijklm" })
		add(which+" has a name that is none", func(d *impl.Disk) { of(d)[0].Name = "A" })
		add(which+" has a last name that is none", func(d *impl.Disk) { of(d)[1].Name = "z_" })
		add(which+" has a blob below 0", func(d *impl.Disk) { of(d)[0].Blob = -1 })
		add(which+" has a blob that is not there", func(d *impl.Disk) { of(d)[1].Blob = 3 })
		add(which+" has a very great blob", func(d *impl.Disk) { of(d)[1].Blob = math.MaxInt })
		add(which+" has a very low blob", func(d *impl.Disk) { of(d)[0].Blob = math.MinInt })
	}
	return out
}

func TestDisksThatAreGood(t *testing.T) {
	full := impl.Disk{Blobs: make([]impl.Blob, 60), Live: manyNames(20), Safe: manyNames(20), Room: diskRoom}
	full.Blobs[0] = impl.Blob{Data: sized(4000), Synced: 4000}
	full.Blobs[59] = impl.Blob{Data: sized(4000)}
	full.Live[19].Blob = 59
	long := fairDisk()
	long.Live[1].Name, long.Safe[1].Name = "xbcdefghijkl", "xbcdefghijkl"
	unnamed := impl.Disk{Blobs: []impl.Blob{{Data: "more than there is room"}}}
	empty := impl.Disk{Blobs: []impl.Blob{}, Live: []impl.Name{}, Safe: []impl.Name{}}
	for i, d := range []impl.Disk{{}, {Room: diskRoom}, fairDisk(), full, long, unnamed, empty} {
		if !impl.GoodDisk(d) {
			t.Errorf("disk %d is not good", i)
		}
	}
	wantUsed(t, full, 8000)
	wantUsed(t, unnamed, 0)
}

func TestDisksThatAreNotGood(t *testing.T) {
	for fault, d := range badDisks() {
		if impl.GoodDisk(d) {
			t.Errorf("%s: good", fault)
		}
		if s, ok := impl.ReadFile(d, "b"); s != "" || ok {
			t.Errorf("%s: ReadFile %.80q %v", fault, s, ok)
		}
		if s, ok := impl.SafeFile(d, "b"); s != "" || ok {
			t.Errorf("%s: SafeFile %.80q %v", fault, s, ok)
		}
		if l, ok := impl.NamesOf(d); len(l) != 0 || ok {
			t.Errorf("%s: NamesOf %v %v", fault, l, ok)
		}
		if n, ok := impl.UsedOf(d); n != 0 || ok {
			t.Errorf("%s: UsedOf %d %v", fault, n, ok)
		}
		for kind := -1; kind <= 9; kind++ {
			if next, code := impl.DoDisk(d, impl.DiskStep{Kind: kind, Name: "b", Other: "z"}); code != impl.DiskBad || !isZeroDisk(next) {
				t.Errorf("%s: kind %d: %d, want DiskBad and the zero disk", fault, kind, code)
			}
		}
	}
}

func TestStepsOfAnyNumbers(t *testing.T) {
	numbers := []int{math.MinInt, math.MinInt + 1, -4001, -1, 0, 1, 3999, 4000, 4001, math.MaxInt - 1, math.MaxInt}
	for kind := -2; kind <= 10; kind++ {
		for _, keep := range numbers {
			want := impl.DiskOk
			if kind < impl.DiskCreate || kind > impl.DiskCrash || kind == impl.DiskCrash && (keep < 0 || keep > 4000) {
				want = impl.DiskBad
			}
			s := impl.DiskStep{Kind: kind, Name: "b", Other: "new", Keep: keep}
			if kind == impl.DiskCreate {
				s.Name = "new"
			}
			wantStep(t, fairDisk(), s, want)
		}
	}
}

// everyStep has one step of each kind that fairDisk takes, and one for each code.
func everyStep() []impl.DiskStep {
	return []impl.DiskStep{
		create("new"), appendTo("b", ""), syncFile("b"), rename("b", "new"), rename("b", "a"), rename("b", "b"), link("b", "new"), remove("b"), syncNames(), crash(0), crash(1),
		{}, syncFile("missing"), create("b"), appendTo("b", "x"),
	}
}

func TestNoAnswerSharesMemoryWithTheDisk(t *testing.T) {
	for _, s := range everyStep() {
		arg := roomyDisk(fairDisk())
		got, _ := impl.DoDisk(arg, s)
		if !untouched(arg, fairDisk()) {
			t.Errorf("%v writes into the disk", s)
		}
		want := impl.Disk{Blobs: slices.Clone(got.Blobs), Live: slices.Clone(got.Live), Safe: slices.Clone(got.Safe), Room: got.Room}
		scribble(arg)
		if !sameDisk(got, want) {
			t.Errorf("%v: the answer shares memory with the disk", s)
		}
	}
}

// scribble writes over all of a disk's lists, behind their length too.
func scribble(d impl.Disk) {
	fill(whole(d.Blobs), impl.Blob{Data: "scribble", Synced: 1})
	fill(whole(d.Live), impl.Name{Name: "scribble", Blob: 7})
	fill(whole(d.Safe), impl.Name{Name: "scribble", Blob: 7})
}

func fill[T any](l []T, x T) {
	for i := range l {
		l[i] = x
	}
}

func TestNoTwoListsOfAnAnswerShareMemory(t *testing.T) {
	for _, s := range everyStep() {
		got, _ := impl.DoDisk(fairDisk(), s)
		safe := slices.Clone(got.Safe)
		fill(whole(got.Live), impl.Name{Name: "scribble", Blob: 7})
		if !slices.Equal(got.Safe, safe) {
			t.Errorf("%v: Live and Safe share memory", s)
		}
	}
}

func TestNothingFromBehindAListIsHandedOut(t *testing.T) {
	for _, s := range everyStep() {
		got, _ := impl.DoDisk(roomyDisk(fairDisk()), s)
		for _, b := range whole(got.Blobs) {
			if b.Data == "behind" {
				t.Errorf("%v hands out a blob from behind the list", s)
			}
		}
		for _, n := range slices.Concat(whole(got.Live), whole(got.Safe)) {
			if n.Name == "behind" {
				t.Errorf("%v hands out a name from behind a list", s)
			}
		}
	}
}

func TestReadersWriteIntoNothing(t *testing.T) {
	arg := roomyDisk(fairDisk())
	impl.GoodDisk(arg)
	wantRead(t, arg, "a", "de")
	wantSafe(t, arg, "b", "ab")
	wantNoRead(t, arg, "behind")
	wantNoSafe(t, arg, "behind")
	wantUsed(t, arg, 5)
	names, _ := impl.NamesOf(arg)
	fill(whole(names), "scribble")
	if !untouched(arg, fairDisk()) {
		t.Error("a reader writes into the disk")
	}
	wantNames(t, arg, "a", "b")
}

func TestPlayWritesIntoNoStep(t *testing.T) {
	l := roomy([]impl.DiskStep{create("a"), appendTo("a", "one"), syncNames(), crash(1)}, create("behind"))
	before := slices.Clone(whole(l))
	d, codes, ok := impl.PlayDisk(10, l)
	if !ok || len(codes) != 4 {
		t.Fatal(codes, ok)
	}
	wantNames(t, d, "a")
	fill(whole(codes), 9)
	scribble(d)
	if !slices.Equal(whole(l), before) {
		t.Error("PlayDisk writes into its steps")
	}
	again, codes, _ := impl.PlayDisk(10, l)
	wantRead(t, again, "a", "o")
	if !slices.Equal(codes, make([]int, 4)) {
		t.Error("a second play has other codes:", codes)
	}
}
