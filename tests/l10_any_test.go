package tests

import (
	"fmt"
	"math"
	"slices"
	"testing"

	"loop.example/g00224/impl"
)

func behindStored() impl.Stored {
	return impl.Stored{Number: 77, Data: "behind"}
}

func behindMeta() impl.Meta {
	return meta(77, 3, "behind", "behind")
}

// roomyEngine copies an engine into lists with something behind their lengths.
func roomyEngine(e impl.Engine) impl.Engine {
	return impl.Engine{Seq: e.Seq, Mem: roomySkip(e.Mem), Version: roomyVersion(e.Version, behindMeta()), Tables: roomy(e.Tables, behindStored())}
}

func untouchedEngine(got impl.Engine, e impl.Engine) bool {
	return got.Seq == e.Seq && untouchedSkip(got.Mem, e.Mem) && untouchedVersion(got.Version, e.Version, behindMeta()) &&
		slices.Equal(got.Tables, e.Tables) && slices.Equal(whole(got.Tables), whole(roomy(e.Tables, behindStored())))
}

// scribbleEngine writes over all of an engine's memory.
func scribbleEngine(e impl.Engine) {
	scribbleSkip(e.Mem)
	scribbleVersion(e.Version)
	fill(whole(e.Tables), impl.Stored{Number: 99, Data: "scribble"})
}

// badEngines are no good ones, by one thing each.
func badEngines() map[string]impl.Engine {
	k := fairKept()
	return map[string]impl.Engine{
		"zero":                  {},
		"Seq below 0":           keptIn(-1, 1).engine(),
		"Seq beyond":            keptIn(greatestSeq+1, 1).engine(),
		"Seq greatest":          keptIn(math.MaxInt, 1).engine(),
		"Seq least":             keptIn(math.MinInt, 1).engine(),
		"the version's Seq":     changedIn(k, func(e *impl.Engine) { e.Version.Seq++ }),
		"no Mem":                changedIn(k, func(e *impl.Engine) { e.Mem = impl.Skip{} }),
		"Mem not linked":        changedIn(k, func(e *impl.Engine) { e.Mem.Heads[0] = -1 }),
		"Mem linked beyond":     changedIn(k, func(e *impl.Engine) { e.Mem.Heads[0] = 50 }),
		"no version":            changedIn(k, func(e *impl.Engine) { e.Version = impl.Version{} }),
		"no tables":             changedIn(k, func(e *impl.Engine) { e.Tables = nil }),
		"no metas":              changedIn(k, func(e *impl.Engine) { e.Version.Metas = nil }),
		"a table too many":      changedIn(k, func(e *impl.Engine) { e.Tables = append(e.Tables, e.Tables[0]) }),
		"tables falling":        changedIn(k, func(e *impl.Engine) { slices.Reverse(e.Tables) }),
		"a number of no meta":   changedIn(k, func(e *impl.Engine) { e.Tables[0].Number = 4 }),
		"no text":               changedIn(k, func(e *impl.Engine) { e.Tables[0].Data = "" }),
		"a text that is turned": changedIn(k, func(e *impl.Engine) { e.Tables[1].Data = turned(e.Tables[1].Data, 9) }),
		"another Least":         changedIn(k, func(e *impl.Engine) { e.Version.Metas[0].Least = "a" }),
		"another Most":          changedIn(k, func(e *impl.Engine) { e.Version.Metas[0].Most = "g" }),
		"an item above":         keptIn(5, 2, held(1, 0, put("k", 6, "v"))).engine(),
		"an item above in Mem":  keptIn(5, 2).withMem(put("k", 6, "v")).engine(),
		"alike":                 keptIn(5, 2, held(1, 0, put("k", 3, "v"))).withMem(gone("k", 3)).engine(),
		"401 items":             keptIn(9, 9, held(1, 0, rowOfItems(120, 1)...), held(2, 0, rowOfItems(120, 2)...), held(3, 0, rowOfItems(120, 3)...), held(4, 0, rowOfItems(41, 4)...)).engine(),
	}
}

func TestEnginesThatAreNotGood(t *testing.T) {
	for name, e := range badEngines() {
		wantBadEngine(t, name, e)
	}
}

// allEngines are engines, good and not.
func allEngines() map[string]impl.Engine {
	l := badEngines()
	for name, k := range manyKept() {
		l["good: "+name] = k.engine()
	}
	return l
}

func TestNoEngineIsWrittenInto(t *testing.T) {
	for name, e := range allEngines() {
		arg := roomyEngine(e)
		impl.GoodEngine(arg)
		impl.WriteBatch(arg, nil)
		impl.WriteBatch(arg, rowOfWrites(1))
		impl.WriteBatch(arg, dealingOf(1).writes(20))
		impl.WriteBatch(arg, append(rowOfWrites(3), unset("")))
		impl.FlushEngine(arg)
		for level := -1; level <= 3; level++ {
			for _, seq := range []int{-1, 0, e.Seq / 2, e.Seq, e.Seq + 1} {
				impl.CompactEngine(arg, level, seq)
			}
		}
		for _, seq := range []int{-1, 0, e.Seq} {
			impl.GetKey(arg, "k", seq)
			impl.ScanEngine(arg, "", "", seq)
			impl.ScanEngine(arg, "a", "z", seq)
		}
		impl.ItemsOf(arg)
		impl.CheckpointOf(arg)
		if !untouchedEngine(arg, e) {
			t.Errorf("%s: the engine is written into", name)
		}
	}
}

func TestNoWritesAreWrittenInto(t *testing.T) {
	behind := setTo("behind", "behind")
	for seed := range 22 {
		l := dealingOf(seed).writes(seed)
		arg := roomy(l, behind)
		for _, k := range []kept{newKept(), fairKept(), manyKept()["Mem full"]} {
			impl.WriteBatch(k.engine(), arg)
		}
		if !slices.Equal(arg, l) || !slices.Equal(whole(arg), whole(roomy(l, behind))) {
			t.Errorf("%d writes are written into", seed)
		}
		if want, ok := fairKept().written(l...); ok {
			got, is := impl.WriteBatch(fairKept().engine(), arg)
			fill(whole(arg), behind)
			wantEngine(t, "writes that are written over", got, is, want)
		}
	}
}

func TestNoCheckpointIsWrittenInto(t *testing.T) {
	for name, k := range manyKept() {
		k = k.withMem()
		l, _ := k.checkpoint()
		for n := range len(l) + 1 {
			arg := roomy(l[:n], "behind")
			got, ok := impl.OpenCheckpoint(arg)
			if !slices.Equal(arg, l[:n]) || !slices.Equal(whole(arg), whole(roomy(l[:n], "behind"))) {
				t.Errorf("%s: the texts are written into", name)
			}
			fill(whole(arg), "scribble")
			if n == len(l) {
				wantEngine(t, name, got, ok, k)
			} else {
				wantNoEngine(t, name, got, ok)
			}
		}
	}
}

// What lies behind a list is none of the engine's, whether it would do there or not.
func TestNothingBehindAnEngineIsRead(t *testing.T) {
	for name, k := range manyKept() {
		arg := roomyEngine(k.engine())
		if !impl.GoodEngine(arg) {
			t.Errorf("%s: not good with something behind its lists", name)
		}
		wantItems(t, name, arg, k.all())
		wantScanned(t, name, arg, k.all(), "", "", k.seq)
		wantNoGotBehind(t, name, arg, k.seq)
		if want, ok := k.written(rowOfWrites(2)...); ok {
			got, ok := impl.WriteBatch(arg, rowOfWrites(2))
			wantEngine(t, name, got, ok, want)
		}
		if want, ok := k.flushed(); ok {
			got, ok := impl.FlushEngine(arg)
			wantEngine(t, name, got, ok, want)
		}
		for level := range 3 {
			if want, ok := k.compacted(level, k.seq); ok {
				got, ok := impl.CompactEngine(arg, level, k.seq)
				wantEngine(t, name, got, ok, want)
			}
		}
		if want, ok := k.checkpoint(); ok {
			wantCheckpoint(t, name, arg, want)
			e, ok := impl.OpenCheckpoint(roomy(want, want[0]))
			wantEngine(t, name, e, ok, k)
		}
	}
	e := roomyEngine(fairKept().engine())
	e.Tables = e.Tables[:1]
	wantBadEngine(t, "a table that lies behind", e)
}

func wantNoGotBehind(t *testing.T, what string, e impl.Engine, seq int) {
	t.Helper()
	if value, has, ok := impl.GetKey(e, "behind", seq); value != "" || has || !ok {
		t.Errorf("%s: GetKey of what lies behind: %q %v %v", what, value, has, ok)
	}
}

// An engineMade is what one function makes of an engine, and what it should be.
type engineMade struct {
	name string
	make func(e impl.Engine) (impl.Engine, bool)
	want kept
	ok   bool
}

func madeOf(k kept) []engineMade {
	var l []engineMade
	add := func(name string, make func(e impl.Engine) (impl.Engine, bool)) func(want kept, ok bool) {
		return func(want kept, ok bool) { l = append(l, engineMade{name: name, make: make, want: want, ok: ok}) }
	}
	for _, n := range []int{1, 7, 20} {
		writes := dealingOf(n).writes(n)
		add(fmt.Sprint("WriteBatch of ", n), func(e impl.Engine) (impl.Engine, bool) { return impl.WriteBatch(e, writes) })(k.written(writes...))
	}
	add("FlushEngine", impl.FlushEngine)(k.flushed())
	for level := range 3 {
		for _, seq := range []int{0, k.seq} {
			add(fmt.Sprint("CompactEngine ", level, " ", seq), func(e impl.Engine) (impl.Engine, bool) { return impl.CompactEngine(e, level, seq) })(k.compacted(level, seq))
		}
	}
	add("OpenCheckpoint of CheckpointOf", func(e impl.Engine) (impl.Engine, bool) {
		texts, _ := impl.CheckpointOf(e)
		return impl.OpenCheckpoint(texts)
	})(k, len(k.mem) == 0)
	return l
}

// What was handed in may be written over once it is answered.
func TestWhatIsMadeKeepsNothingOfAnEngine(t *testing.T) {
	for name, k := range manyKept() {
		for _, m := range madeOf(k) {
			arg := roomyEngine(k.engine())
			got, ok := m.make(arg)
			if !untouchedEngine(arg, k.engine()) {
				t.Errorf("%s: %s writes into the engine", name, m.name)
			}
			scribbleEngine(arg)
			if m.ok {
				wantEngine(t, name+": "+m.name, got, ok, m.want)
			} else {
				wantNoEngine(t, name+": "+m.name, got, ok)
			}
		}
	}
}

func TestWhatIsMadeMayBeWrittenInto(t *testing.T) {
	for name, k := range manyKept() {
		e := k.engine()
		for _, m := range madeOf(k) {
			for range 2 {
				got, ok := m.make(e)
				if m.ok {
					wantEngine(t, name+": "+m.name, got, ok, m.want)
				}
				wantNothingBehindEngine(t, name+": "+m.name, got)
				scribbleEngine(got)
			}
		}
		if !sameEngine(e, k.engine()) {
			t.Errorf("%s: the engine is changed with what was made of it", name)
		}
	}
	for range 2 {
		e := impl.NewEngine()
		wantEngine(t, "NewEngine", e, true, newKept())
		scribbleEngine(e)
	}
}

func wantNothingBehindEngine(t *testing.T, what string, e impl.Engine) {
	t.Helper()
	wantNothingBehind(t, what, e.Mem.Heads)
	wantNothingBehind(t, what, e.Version.Metas)
	wantNothingBehind(t, what, e.Tables)
	for _, tower := range e.Mem.Towers {
		wantNothingBehind(t, what, tower.Next)
	}
	for _, tower := range whole(e.Mem.Towers)[len(e.Mem.Towers):] {
		if !sameTower(tower, impl.Tower{}) {
			t.Errorf("%s: behind Mem lies %s", what, shown(tower))
		}
	}
}

func TestNoTwoListsOfAnEngineShareMemory(t *testing.T) {
	for name, k := range manyKept() {
		for _, m := range madeOf(k) {
			got, _ := m.make(k.engine())
			lists := listsOf(got.Mem)
			for i, l := range lists {
				fill(whole(l), i+100)
			}
			for i, l := range lists {
				if slices.ContainsFunc(whole(l), func(n int) bool { return n != i+100 }) {
					t.Errorf("%s: %s: the numbers of tower %d share memory", name, m.name, i-1)
				}
			}
		}
	}
}

func TestWhatIsReadFromAnEngineMayBeWrittenInto(t *testing.T) {
	for name, k := range manyKept() {
		e := k.engine()
		for range 2 {
			wantItems(t, name, e, k.all())
			r, _ := impl.ItemsOf(e)
			wantNothingBehind(t, name, r.Items)
			fill(whole(r.Items), put("scribble", 9, "scribble"))
			wantScanned(t, name, e, k.all(), "", "", k.seq)
			pairs, _ := impl.ScanEngine(e, "", "", k.seq)
			wantNothingBehind(t, name, pairs)
			fill(whole(pairs), impl.Pair{Key: "scribble", Value: "scribble"})
			if want, ok := k.checkpoint(); ok {
				wantCheckpoint(t, name, e, want)
				texts, _ := impl.CheckpointOf(e)
				wantNothingBehind(t, name, texts)
				fill(whole(texts), "scribble")
			}
		}
		if !sameEngine(e, k.engine()) {
			t.Errorf("%s: the engine is changed with what was read from it", name)
		}
		arg := roomyEngine(e)
		r, _ := impl.ItemsOf(arg)
		pairs, _ := impl.ScanEngine(arg, "", "", k.seq)
		texts, told := impl.CheckpointOf(arg)
		scribbleEngine(arg)
		if !slices.Equal(r.Items, k.all()) || !slices.Equal(pairs, pairsByHand(k.all(), "", "", k.seq)) {
			t.Errorf("%s: what was read changes with the engine", name)
		}
		if want, ok := k.checkpoint(); told != ok || !slices.Equal(texts, want) {
			t.Errorf("%s: the checkpoint changes with the engine", name)
		}
	}
}

// What was answered ahead stays as it was, whatever is asked for later.
func TestEnginesThatWereAnsweredStay(t *testing.T) {
	row := []chain{newChain()}
	d := dealingOf(3)
	for i := range 40 {
		last := row[len(row)-1]
		next := last.write(t, "write", d.writes(5)...)
		if i%4 == 3 {
			next = last.flush(t, "flush")
		}
		if i%8 == 7 {
			next = last.compact(t, "compact", 0, last.k.seq/2)
		}
		for _, m := range madeOf(last.k) {
			m.make(last.e)
		}
		impl.ItemsOf(last.e)
		impl.GetKey(last.e, "k01", last.e.Seq)
		row = append(row, next)
	}
	for i, c := range row {
		if !sameEngine(c.e, c.k.engine()) {
			t.Errorf("answer %d is changed by a later call", i)
		}
	}
}

// Several engines may lie in one memory: each is read as its own.
func TestEnginesThatLieInEachOther(t *testing.T) {
	k := keptIn(9, 40, rowOfFiles(30, 1, 0)...)
	e := k.engine()
	for n := range 31 {
		part := impl.Engine{Seq: 9, Mem: e.Mem, Version: version(40, 9, e.Version.Metas[:n]...), Tables: e.Tables[:n]}
		want := keptIn(9, 40, k.files[:n]...)
		wantItems(t, "a part", part, want.all())
		written, _ := want.written(setTo("a", "x"))
		got, ok := impl.WriteBatch(part, []impl.Write{setTo("a", "x")})
		wantEngine(t, "a part is written", got, ok, written)
		if flushed, is := written.flushed(); is {
			got, ok = impl.FlushEngine(got)
			wantEngine(t, "a part is flushed", got, ok, flushed)
		}
		if compacted, is := want.compacted(0, 9); is {
			got, ok = impl.CompactEngine(part, 0, 9)
			wantEngine(t, "a part is compacted", got, ok, compacted)
		}
	}
	if !sameEngine(e, k.engine()) {
		t.Error("the engine is changed with its parts")
	}
}

// Each wrong beside all else right or wrong: no call fails to answer.
func TestEnginesAtAnyArguments(t *testing.T) {
	seqs := append(anySeqs(), 9, 10)
	for name, e := range allEngines() {
		if len(name) > 6 && name[:6] == "good: " && len(e.Tables) > 3 {
			continue
		}
		good := isEngineByHand(e)
		if impl.GoodEngine(e) != good {
			t.Errorf("%s: GoodEngine: %v", name, !good)
		}
		for _, seq := range seqs {
			seqGood := good && seq >= 0 && seq <= e.Seq
			for _, from := range anyTexts() {
				value, has, ok := impl.GetKey(e, from, seq)
				if want := seqGood && isKeyByHand(from); ok != want || !want && (value != "" || has) {
					t.Errorf("%s: GetKey %.20q %d: %q %v %v, want %v", name, from, seq, value, has, ok, want)
				}
				for _, to := range []string{"", "k", sized(17)} {
					want := seqGood && len(from) <= 16 && len(to) <= 16
					if got, ok := impl.ScanEngine(e, from, to, seq); ok != want || !want && len(got) != 0 {
						t.Errorf("%s: ScanEngine %.20q %.20q %d: %s %v, want %v", name, from, to, seq, shown(got), ok, want)
					}
				}
			}
			for _, level := range anyLevels() {
				got, ok := impl.CompactEngine(e, level, seq)
				if ok && (!seqGood || level < 0 || level > 2 || !isEngineByHand(got)) {
					t.Errorf("%s: CompactEngine %d %d tells true", name, level, seq)
				}
				if !ok {
					wantNoEngine(t, name, got, ok)
				}
			}
		}
		for fault, w := range badWrites() {
			got, ok := impl.WriteBatch(e, []impl.Write{w})
			wantNoEngine(t, name+": "+fault, got, ok)
		}
	}
}

// What hangs on the order in which something is gone through would show.
func TestEnginesAnswerAlikeEachTime(t *testing.T) {
	k := someKept(60, 4)
	e, all := k.engine(), k.all()
	text, _ := k.withMem().checkpoint()
	for i := range 30 {
		what := fmt.Sprint("again ", i)
		for _, m := range madeOf(k) {
			got, ok := m.make(e)
			if m.ok {
				wantEngine(t, what+": "+m.name, got, ok, m.want)
			}
		}
		wantItems(t, what, e, all)
		wantScanned(t, what, e, all, "", "", k.seq)
		wantGot(t, what, e, all, "k03", k.seq)
		wantCheckpoint(t, what, k.withMem().engine(), text)
		wantBadEngine(t, what, badEngines()["alike"])
	}
}
