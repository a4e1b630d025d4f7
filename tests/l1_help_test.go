package tests

import (
	"fmt"
	"slices"
	"strings"
	"testing"

	"loop.example/g00224/impl"
)

const diskBlobs = 60
const diskRoom = 100000

func create(name string) impl.DiskStep {
	return impl.DiskStep{Kind: impl.DiskCreate, Name: name}
}

func appendTo(name string, data string) impl.DiskStep {
	return impl.DiskStep{Kind: impl.DiskAppend, Name: name, Data: data}
}

func syncFile(name string) impl.DiskStep {
	return impl.DiskStep{Kind: impl.DiskSync, Name: name}
}

func rename(name string, other string) impl.DiskStep {
	return impl.DiskStep{Kind: impl.DiskRename, Name: name, Other: other}
}

func link(name string, other string) impl.DiskStep {
	return impl.DiskStep{Kind: impl.DiskLink, Name: name, Other: other}
}

func remove(name string) impl.DiskStep {
	return impl.DiskStep{Kind: impl.DiskRemove, Name: name}
}

func syncNames() impl.DiskStep {
	return impl.DiskStep{Kind: impl.DiskNames}
}

func crash(keep int) impl.DiskStep {
	return impl.DiskStep{Kind: impl.DiskCrash, Keep: keep}
}

func sized(n int) string {
	return strings.Repeat("x", n)
}

// numbered makes names that rise with their number.
func numbered(n int) string {
	return fmt.Sprintf("n%02d", n)
}

// manyNames makes rising names, all of blob 0.
func manyNames(n int) []impl.Name {
	var l []impl.Name
	for i := range n {
		l = append(l, impl.Name{Name: numbered(i)})
	}
	return l
}

func sameDisk(a impl.Disk, b impl.Disk) bool {
	return slices.Equal(a.Blobs, b.Blobs) && slices.Equal(a.Live, b.Live) && slices.Equal(a.Safe, b.Safe) && a.Room == b.Room
}

func isZeroDisk(d impl.Disk) bool {
	return sameDisk(d, impl.Disk{})
}

// spare is what lies behind the length of each list that roomyDisk makes.
const spare = 3

func roomy[T any](l []T, behind T) []T {
	out := make([]T, 0, len(l)+spare)
	out = append(out, l...)
	for i := range spare {
		out[:len(l)+i+1][len(l)+i] = behind
	}
	return out
}

// roomyDisk copies a disk into lists with something behind their length, so that a step that appends in place is seen.
func roomyDisk(d impl.Disk) impl.Disk {
	return impl.Disk{
		Blobs: roomy(d.Blobs, impl.Blob{Data: "behind", Synced: 2}),
		Live:  roomy(d.Live, impl.Name{Name: "behind", Blob: 9}),
		Safe:  roomy(d.Safe, impl.Name{Name: "behind", Blob: 9}),
		Room:  d.Room,
	}
}

func whole[T any](l []T) []T {
	return l[:cap(l)]
}

// untouched tells whether a disk of roomyDisk is still as it was made of d, behind its lists too.
func untouched(got impl.Disk, d impl.Disk) bool {
	made := roomyDisk(d)
	return sameDisk(got, d) &&
		slices.Equal(whole(got.Blobs), whole(made.Blobs)) &&
		slices.Equal(whole(got.Live), whole(made.Live)) &&
		slices.Equal(whole(got.Safe), whole(made.Safe))
}

// play does steps of which all must be taken.
func play(t *testing.T, room int, l ...impl.DiskStep) impl.Disk {
	t.Helper()
	d, codes, ok := impl.PlayDisk(room, l)
	if !ok || len(codes) != len(l) {
		t.Fatalf("PlayDisk(%d, %v): codes %v, %v", room, l, codes, ok)
	}
	for i, code := range codes {
		if code != impl.DiskOk {
			t.Fatalf("step %d (%v) is refused with %d", i, l[i], code)
		}
	}
	return d
}

// wantStep does one step and asks for a code; where the code is not 0 the disk must be as it was.
func wantStep(t *testing.T, d impl.Disk, s impl.DiskStep, want int) impl.Disk {
	t.Helper()
	arg := roomyDisk(d)
	got, code := impl.DoDisk(arg, s)
	if code != want {
		t.Errorf("step %.80v: code %d, want %d", fmt.Sprint(s), code, want)
	}
	if want != impl.DiskOk && !sameDisk(got, d) {
		t.Errorf("step %.80v: refused, but the disk is another one", fmt.Sprint(s))
	}
	if !untouched(arg, d) {
		t.Errorf("step %.80v: the argument is written into", fmt.Sprint(s))
	}
	return got
}

func wantDisk(t *testing.T, got impl.Disk, want impl.Disk) {
	t.Helper()
	if !sameDisk(got, want) {
		t.Errorf("the disk is %.300v, want %.300v", fmt.Sprint(got), fmt.Sprint(want))
	}
}

func wantRead(t *testing.T, d impl.Disk, name string, want string) {
	t.Helper()
	if s, ok := impl.ReadFile(d, name); s != want || !ok {
		t.Errorf("ReadFile %q: %.80q %v, want %.80q", name, s, ok, want)
	}
}

func wantSafe(t *testing.T, d impl.Disk, name string, want string) {
	t.Helper()
	if s, ok := impl.SafeFile(d, name); s != want || !ok {
		t.Errorf("SafeFile %q: %.80q %v, want %.80q", name, s, ok, want)
	}
}

func wantNoRead(t *testing.T, d impl.Disk, name string) {
	t.Helper()
	if s, ok := impl.ReadFile(d, name); s != "" || ok {
		t.Errorf("ReadFile %q: %.80q %v, want nothing", name, s, ok)
	}
}

func wantNoSafe(t *testing.T, d impl.Disk, name string) {
	t.Helper()
	if s, ok := impl.SafeFile(d, name); s != "" || ok {
		t.Errorf("SafeFile %q: %.80q %v, want nothing", name, s, ok)
	}
}

func wantNames(t *testing.T, d impl.Disk, want ...string) {
	t.Helper()
	if l, ok := impl.NamesOf(d); !slices.Equal(l, want) || !ok {
		t.Errorf("NamesOf: %v %v, want %v", l, ok, want)
	}
}

func wantUsed(t *testing.T, d impl.Disk, want int) {
	t.Helper()
	if n, ok := impl.UsedOf(d); n != want || !ok {
		t.Errorf("UsedOf: %d %v, want %d", n, ok, want)
	}
}
