package impl

import (
	"slices"
	"strings"
)

const MaxFiles = 20
const MaxFile = 4000
const MaxDiskSteps = 100
const DiskOk = 0
const DiskBad = 1
const DiskName = 2
const DiskTwice = 3
const DiskFull = 4
const DiskCreate = 1
const DiskAppend = 2
const DiskSync = 3
const DiskRename = 4
const DiskLink = 5
const DiskRemove = 6
const DiskNames = 7
const DiskCrash = 8

const maxBlobs = 60
const maxRoom = 100000
const maxFileName = 12

type Blob struct {
	Data   string
	Synced int
}

type Name struct {
	Name string
	Blob int
}

type Disk struct {
	Blobs []Blob
	Live  []Name
	Safe  []Name
	Room  int
}

type DiskStep struct {
	Kind  int
	Name  string
	Other string
	Data  string
	Keep  int
}

func NewDisk(room int) (Disk, bool) {
	if room < 0 || room > maxRoom {
		return Disk{}, false
	}
	return Disk{Room: room}, true
}

func GoodDisk(d Disk) bool {
	// The names come ahead of the room: only numbers of blobs may be counted by.
	return d.Room >= 0 && d.Room <= maxRoom &&
		goodBlobs(d.Blobs) &&
		goodNames(d.Live, len(d.Blobs)) &&
		goodNames(d.Safe, len(d.Blobs)) &&
		usedBytes(d) <= d.Room
}

func DoDisk(d Disk, s DiskStep) (Disk, int) {
	if !GoodDisk(d) {
		return Disk{}, DiskBad
	}
	live := meaningOf(d.Live)
	code := refusalOf(d, live, s)
	if code != DiskOk {
		return copyDisk(d), code
	}
	return changeDisk(copyDisk(d), live, s), DiskOk
}

func PlayDisk(room int, l []DiskStep) (Disk, []int, bool) {
	d, ok := NewDisk(room)
	if !ok || len(l) > MaxDiskSteps {
		return Disk{}, nil, false
	}
	var codes []int
	for _, s := range l {
		next, code := DoDisk(d, s)
		d = next
		codes = append(codes, code)
	}
	return d, codes, true
}

func ReadFile(d Disk, name string) (string, bool) {
	if !GoodDisk(d) {
		return "", false
	}
	return readNamed(liveFiles(d.Blobs), d.Live, name)
}

func SafeFile(d Disk, name string) (string, bool) {
	if !GoodDisk(d) {
		return "", false
	}
	return readNamed(crashedFiles(d.Blobs, 0), d.Safe, name)
}

func NamesOf(d Disk) ([]string, bool) {
	if !GoodDisk(d) {
		return nil, false
	}
	var names []string
	for _, n := range d.Live {
		names = append(names, n.Name)
	}
	return names, true
}

func UsedOf(d Disk) (int, bool) {
	if !GoodDisk(d) {
		return 0, false
	}
	return usedBytes(d), true
}

// A file hides whether the disk still runs or has crashed: what is read of a
// blob is another text then, and nobody who reads has to ask which.
type file interface {
	read() string
}

type liveFile struct {
	blob Blob
}

type crashedFile struct {
	blob Blob
	keep int
}

func (f liveFile) read() string {
	return f.blob.Data
}

func (f crashedFile) read() string {
	return f.blob.Data[:min(len(f.blob.Data), f.blob.Synced+f.keep)]
}

func liveFiles(blobs []Blob) []file {
	var files []file
	for _, b := range blobs {
		files = append(files, liveFile{blob: b})
	}
	return files
}

func crashedFiles(blobs []Blob, keep int) []file {
	var files []file
	for _, b := range blobs {
		files = append(files, crashedFile{blob: b, keep: keep})
	}
	return files
}

func readNamed(files []file, l []Name, name string) (string, bool) {
	blob, ok := meaningOf(l)[name]
	if !ok {
		return "", false
	}
	return files[blob].read(), true
}

// A meaning tells of each name the number of its blob.
type meaning map[string]int

func meaningOf(l []Name) meaning {
	m := meaning{}
	for _, n := range l {
		m[n.Name] = n.Blob
	}
	return m
}

// rising sorts, since a map is gone through in no order that may be told.
func (m meaning) rising() []Name {
	var l []Name
	for name, blob := range m {
		l = append(l, Name{Name: name, Blob: blob})
	}
	slices.SortFunc(l, byName)
	return l
}

func byName(a Name, b Name) int {
	return strings.Compare(a.Name, b.Name)
}

func goodBlobs(l []Blob) bool {
	if len(l) > maxBlobs {
		return false
	}
	for _, b := range l {
		if len(b.Data) > MaxFile || b.Synced < 0 || b.Synced > len(b.Data) {
			return false
		}
	}
	return true
}

func goodNames(l []Name, blobs int) bool {
	if len(l) > MaxFiles {
		return false
	}
	for i, n := range l {
		if !isFileName(n.Name) || n.Blob < 0 || n.Blob >= blobs {
			return false
		}
		if i > 0 && l[i-1].Name >= n.Name {
			return false
		}
	}
	return true
}

func isFileName(name string) bool {
	if len(name) < 1 || len(name) > maxFileName {
		return false
	}
	for i := range len(name) {
		if !isNameByte(name[i]) {
			return false
		}
	}
	return true
}

func isNameByte(c byte) bool {
	return c >= 'a' && c <= 'z' || c >= '0' && c <= '9' || c == '.'
}

// usedBytes marks the blobs first: one that has several names counts once.
func usedBytes(d Disk) int {
	named := make([]bool, len(d.Blobs))
	for _, n := range d.Live {
		named[n.Blob] = true
	}
	for _, n := range d.Safe {
		named[n.Blob] = true
	}
	used := 0
	for i, b := range d.Blobs {
		if named[i] {
			used += len(b.Data)
		}
	}
	return used
}

func refusalOf(d Disk, live meaning, s DiskStep) int {
	switch {
	case !goodStep(s):
		return DiskBad
	case lacksName(live, s):
		return DiskName
	case takenName(live, s):
		return DiskTwice
	case overfills(d, live, s):
		return DiskFull
	}
	return DiskOk
}

func goodStep(s DiskStep) bool {
	if len(s.Data) > MaxFile {
		return false
	}
	switch s.Kind {
	case DiskCreate, DiskAppend, DiskSync, DiskRemove:
		return isFileName(s.Name)
	case DiskRename, DiskLink:
		return isFileName(s.Name) && isFileName(s.Other)
	case DiskNames:
		return true
	case DiskCrash:
		return s.Keep >= 0 && s.Keep <= MaxFile
	}
	return false
}

func lacksName(live meaning, s DiskStep) bool {
	switch s.Kind {
	case DiskAppend, DiskSync, DiskRename, DiskLink, DiskRemove:
		_, there := live[s.Name]
		return !there
	}
	return false
}

func takenName(live meaning, s DiskStep) bool {
	there := false
	switch s.Kind {
	case DiskCreate:
		_, there = live[s.Name]
	case DiskLink:
		_, there = live[s.Other]
	}
	return there
}

// overfills asks only the steps that can add: whatever else is done leaves as
// many names, blobs and bytes as there were, or fewer.
func overfills(d Disk, live meaning, s DiskStep) bool {
	switch s.Kind {
	case DiskCreate:
		return len(live) >= MaxFiles || len(d.Blobs) >= maxBlobs
	case DiskLink:
		return len(live) >= MaxFiles
	case DiskAppend:
		size := len(d.Blobs[live[s.Name]].Data) + len(s.Data)
		return size > MaxFile || usedBytes(d)+len(s.Data) > d.Room
	}
	return false
}

func copyDisk(d Disk) Disk {
	return Disk{
		Blobs: slices.Clone(d.Blobs),
		Live:  slices.Clone(d.Live),
		Safe:  slices.Clone(d.Safe),
		Room:  d.Room,
	}
}

// changeDisk does a step that is not refused; the disk it is given is its own
// to write into.
func changeDisk(d Disk, live meaning, s DiskStep) Disk {
	blob := live[s.Name]
	switch s.Kind {
	case DiskCreate:
		live[s.Name] = len(d.Blobs)
		d.Blobs = append(d.Blobs, Blob{})
	case DiskAppend:
		d.Blobs[blob].Data += s.Data
	case DiskSync:
		d.Blobs[blob].Synced = len(d.Blobs[blob].Data)
	case DiskRename:
		// The old name goes first, so that a renaming to itself leaves it.
		delete(live, s.Name)
		live[s.Other] = blob
	case DiskLink:
		live[s.Other] = blob
	case DiskRemove:
		delete(live, s.Name)
	case DiskNames:
		d.Safe = live.rising()
	case DiskCrash:
		live = meaningOf(d.Safe)
		d.Blobs = blobsOf(crashedFiles(d.Blobs, s.Keep))
	}
	d.Live = live.rising()
	return d
}

// blobsOf takes all that is read as synced: what a crash left is on the disk.
func blobsOf(files []file) []Blob {
	var l []Blob
	for _, f := range files {
		data := f.read()
		l = append(l, Blob{Data: data, Synced: len(data)})
	}
	return l
}
