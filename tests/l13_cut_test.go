package tests

import (
	"fmt"
	"math"
	"slices"
	"strings"
	"testing"

	"loop.example/g00224/impl"
)

func TestWhatIsWantedOfFiles(t *testing.T) {
	for name, files := range manyFiles() {
		checkWant(t, name, files)
	}
	got, ok := impl.WantOf([]string{"123456789", "", "abc"})
	// The sum of the nine digits is the one by which CRC-32C is told from others.
	want := []impl.Wanted{{Size: 9, Sum: 0xE3069283}, {Size: 0, Sum: 0}, {Size: 3, Sum: 0x364B3FB7}}
	if !ok || !slices.Equal(got, want) {
		t.Errorf("WantOf: %v %v, want %v", got, ok, want)
	}
}

func TestWhatIsWantedAtItsEdges(t *testing.T) {
	checkWant(t, "no files", []string{})
	for many := range 15 {
		checkWant(t, fmt.Sprint(many, " files"), alike(many, "x"))
		checkWant(t, fmt.Sprint(many, " empty files"), alike(many, ""))
		for _, size := range []int{3999, 4000, 4001, 100000} {
			for place := range many {
				files := alike(many, "x")
				files[place] = mixed(size, place)
				checkWant(t, fmt.Sprintf("%d files, %d bytes in %d", many, size, place), files)
			}
		}
	}
	if _, ok := impl.WantOf(alike(12, sized(4000))); !ok {
		t.Error("12 files of 4000 bytes are refused: how many chunks they have does not matter here")
	}
	if got, ok := impl.WantOf(alike(13, "")); ok || len(got) != 0 {
		t.Error("13 files are taken")
	}
	if got, ok := impl.WantOf([]string{"x", sized(4001)}); ok || len(got) != 0 {
		t.Error("a file of 4001 bytes is taken")
	}
}

func TestFilesAreCut(t *testing.T) {
	for name, files := range manyFiles() {
		checkChunks(t, name, files)
	}
	long := mixed(150, 1)
	got, ok := impl.ChunksOf([]string{"", long, "abc"})
	want := []impl.Chunk{
		{File: 1, At: 0, Data: long[:64], Sum: sumByLibrary("\x01\x00" + long[:64])},
		{File: 1, At: 64, Data: long[64:128], Sum: sumByLibrary("\x01\x40" + long[64:128])},
		{File: 1, At: 128, Data: long[128:], Sum: sumByLibrary("\x01\x80\x01" + long[128:])},
		{File: 2, At: 0, Data: "abc", Sum: sumByLibrary("\x02\x00abc")},
	}
	if !ok || !slices.Equal(got, want) {
		t.Errorf("ChunksOf: %s %v, want %s", shown(got), ok, shown(want))
	}
}

// Every size of a file, up to one more than it may have.
func TestFilesOfEverySizeAreCut(t *testing.T) {
	long := mixed(4001, 9)
	for size := range 4002 {
		checkChunks(t, fmt.Sprint(size, " bytes"), []string{long[:size]})
	}
	l, ok := impl.ChunksOf([]string{"a", long[:4000]})
	if !ok || len(l) != 64 || l[63].At != 3968 || len(l[63].Data) != 32 {
		t.Errorf("4000 bytes: %d chunks, %v", len(l), ok)
	}
	for _, files := range [][]string{{long}, {"", long}, {long, ""}, {"a", "b", long, "c"}} {
		if l, ok := impl.ChunksOf(files); ok || len(l) != 0 {
			t.Errorf("4001 bytes are cut: %d chunks", len(l))
		}
	}
}

func TestBytesOfEveryValueAreCut(t *testing.T) {
	for value := range 256 {
		for _, size := range []int{1, 64, 65} {
			checkChunks(t, fmt.Sprint(size, " bytes ", value), []string{repeated(byte(value), size), repeated(byte(value), 1)})
		}
	}
	checkChunks(t, "all bytes", []string{everyByte(), strings.Repeat(everyByte(), 15)})
}

func TestHowManyFilesAreCut(t *testing.T) {
	for many := range 15 {
		checkChunks(t, fmt.Sprint(many, " files"), filesSized(many, slices.Repeat([]int{70}, many)...))
		checkChunks(t, fmt.Sprint(many, " empty files"), alike(many, ""))
	}
	if l, ok := impl.ChunksOf(alike(12, "x")); !ok || len(l) != 12 {
		t.Errorf("12 files: %d chunks, %v", len(l), ok)
	}
	if l, ok := impl.ChunksOf(alike(13, "x")); ok || len(l) != 0 {
		t.Errorf("13 files: %d chunks, %v", len(l), ok)
	}
	if l, ok := impl.ChunksOf(nil); !ok || len(l) != 0 {
		t.Errorf("no files: %d chunks, %v", len(l), ok)
	}
}

func TestHowManyChunksThereMayBe(t *testing.T) {
	for name, sizes := range map[string][]int{
		"three great ones and one": {4000, 4000, 4000, 704},
		"the small one first":      {704, 4000, 4000, 4000},
		"empty ones as well":       {4000, 0, 4000, 0, 0, 4000, 0, 0, 0, 0, 0, 704},
		"twelve":                   {1088, 1024, 1088, 1024, 1088, 1024, 1088, 1024, 1088, 1088, 1088, 1088},
		"last ones of one byte":    {3969, 3969, 3969, 641},
	} {
		files := filesSized(1, sizes...)
		checkChunks(t, name, files)
		if l, ok := impl.ChunksOf(files); !ok || len(l) != 200 {
			t.Errorf("%s: %d chunks, %v, want 200", name, len(l), ok)
		}
		for place := range files {
			more := slices.Clone(files)
			more[place] += sized(64)
			if len(more[place]) > 4000 {
				continue
			}
			checkChunks(t, name+", one more", more)
			if l, ok := impl.ChunksOf(more); ok || len(l) != 0 {
				t.Errorf("%s: one more in %d: %d chunks, %v", name, place, len(l), ok)
			}
		}
	}
	// One byte more is one chunk more where the last one is full.
	if l, ok := impl.ChunksOf(filesSized(1, 4000, 4000, 4000, 705)); ok || len(l) != 0 {
		t.Errorf("201 chunks: %d, %v", len(l), ok)
	}
	if l, ok := impl.ChunksOf(alike(12, sized(4000))); ok || len(l) != 0 {
		t.Errorf("756 chunks: %d, %v", len(l), ok)
	}
}

func TestSumsOfChunks(t *testing.T) {
	numbers := []int{0, 1, 2, 11, 12, 63, 64, 127, 128, 129, 255, 256, 3968, 4000, 16383, 16384, 1 << 31, 1<<56 - 1, 1 << 56, math.MaxInt - 1, math.MaxInt, -1, -2, -64, -128, math.MinInt + 1, math.MinInt}
	texts := []string{"", "\x00", "a", "\x80", everyByte(), mixed(63, 1), mixed(64, 1), mixed(65, 1), mixed(5000, 1)}
	for _, file := range numbers {
		for _, at := range numbers {
			for _, data := range texts {
				if got, want := impl.ChunkSum(file, at, data), chunkSumByHand(file, at, data); got != want {
					t.Errorf("ChunkSum(%d, %d, %d bytes): %x, want %x", file, at, len(data), got, want)
				}
			}
		}
	}
}

// What stands in a sum, byte by byte.
func TestSumsOfChunksAreOfTheseBytes(t *testing.T) {
	for _, x := range []struct {
		file, at int
		data     string
		bytes    string
	}{
		{0, 0, "", "\x00\x00"},
		{0, 0, "x", "\x00\x00x"},
		{1, 0, "x", "\x01\x00x"},
		{0, 1, "x", "\x00\x01x"},
		{127, 128, "x", "\x7f\x80\x01x"},
		{128, 127, "x", "\x80\x01\x7fx"},
		{300, 64, "", "\xac\x02\x40"},
		{11, 3968, "ab", "\x0b\x80\x1fab"},
		{math.MaxInt, 0, "z", "\xff\xff\xff\xff\xff\xff\xff\xff\x7f\x00z"},
		{0, math.MaxInt, "z", "\x00\xff\xff\xff\xff\xff\xff\xff\xff\x7fz"},
		{-1, 5, "x", "\x00\x05x"},
		{5, -1, "x", "\x05\x00x"},
		{math.MinInt, math.MinInt, "x", "\x00\x00x"},
		{-64, -64, "", "\x00\x00"},
	} {
		if got, want := impl.ChunkSum(x.file, x.at, x.data), sumByLibrary(x.bytes); got != want {
			t.Errorf("ChunkSum(%d, %d, %q): %x, want that of %q, %x", x.file, x.at, x.data, got, x.bytes, want)
		}
	}
	if got := impl.ChunkSum('1', '2', "3456789"); got != 0xE3069283 {
		t.Errorf("ChunkSum of the nine digits: %x", got)
	}
}

// Where a chunk stands is in its sum: the same bytes elsewhere have another one.
func TestSumsTellWhereAChunkStands(t *testing.T) {
	for _, data := range []string{"", "x", mixed(64, 1), repeated(0, 64)} {
		seen := map[uint32]string{}
		for file := range 12 {
			for at := 0; at < 4000; at += 64 {
				place := fmt.Sprint(file, " ", at)
				sum := impl.ChunkSum(file, at, data)
				if other, there := seen[sum]; there {
					t.Errorf("%d bytes at %s and at %s have one sum", len(data), place, other)
				}
				seen[sum] = place
			}
		}
	}
}
