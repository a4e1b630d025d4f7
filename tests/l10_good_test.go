package tests

import (
	"fmt"
	"math"
	"slices"
	"testing"

	"loop.example/g00224/impl"
)

func TestNewEngine(t *testing.T) {
	wantEngine(t, "NewEngine", impl.NewEngine(), true, newKept())
	wantItems(t, "NewEngine", impl.NewEngine(), nil)
}

func TestEnginesThatAreGood(t *testing.T) {
	for name, k := range manyKept() {
		wantGoodEngine(t, name, k)
	}
}

// checkEngine asks for an engine to be good or not.
func checkEngine(t *testing.T, what string, k kept, good bool) {
	t.Helper()
	if good {
		wantGoodEngine(t, what, k)
	} else {
		wantBadEngine(t, what, k.engine())
	}
}

// changedIn is a kept engine with one thing changed.
func changedIn(k kept, change func(e *impl.Engine)) impl.Engine {
	e := k.engine()
	change(&e)
	return e
}

// fairKept has items in Mem and in two tables.
func fairKept() kept {
	return keptIn(9, 9, held(3, 0, put("b", 4, "x"), put("f", 5, "x")), held(5, 1, gone("a", 1), put("d", 2, "x"), put("h", 1, "x"))).withMem(put("d", 6, "y"), gone("b", 7))
}

func TestSeqOfAnEngine(t *testing.T) {
	for seq, good := range map[int]bool{math.MinInt: false, -1: false, 0: true, 1: true, 999999999: true, 1000000000: true, 1000000001: false, math.MaxInt: false} {
		checkEngine(t, fmt.Sprint("Seq ", seq), keptIn(seq, 1), good)
		checkEngine(t, fmt.Sprint("Seq ", seq, ", an item in Mem"), keptIn(seq, 1).withMem(put("k", 0, "v")), good)
		checkEngine(t, fmt.Sprint("Seq ", seq, ", an item in a table"), keptIn(seq, 2, held(1, 2, put("k", 0, "v"))), good)
	}
}

func TestNoSeqOfAnItemIsAboveTheEngines(t *testing.T) {
	for _, seq := range []int{0, 1, 5, 999999999, 1000000000} {
		for _, item := range []int{0, seq - 1, seq, seq + 1} {
			if item < 0 || item > greatestSeq {
				continue
			}
			what := fmt.Sprint("an item of ", item, " in an engine of ", seq)
			for _, x := range []impl.Item{put("k", item, "v"), gone("k", item)} {
				checkEngine(t, what+", in Mem", keptIn(seq, 1).withMem(x), item <= seq)
				checkEngine(t, what+", last in Mem", keptIn(seq, 1).withMem(put("a", 0, ""), x), item <= seq)
				for level := range 4 {
					checkEngine(t, what+", in a table", keptIn(seq, 2, held(1, level, x)), item <= seq)
					checkEngine(t, what+", in a table among others", keptIn(seq, 4, held(1, level, put("a", 0, ""), put("j", 0, "")), held(3, level, put("jj", 0, ""), x, put("z", 0, ""))), item <= seq)
				}
			}
		}
	}
}

func TestTheVersionHasTheEnginesSeq(t *testing.T) {
	for name, k := range manyKept() {
		for _, other := range []int{-1, 1, -k.seq, greatestSeq} {
			e := changedIn(k, func(e *impl.Engine) { e.Version.Seq += other })
			if other != 0 {
				wantBadEngine(t, name+", the version's Seq", e)
			}
		}
		above := changedIn(k, func(e *impl.Engine) { e.Seq++ })
		wantBadEngine(t, name+", Seq one more", above)
		below := changedIn(k, func(e *impl.Engine) { e.Seq-- })
		wantBadEngine(t, name+", Seq one less", below)
	}
}

func TestMemOfAnEngineIsGood(t *testing.T) {
	bad := map[string]impl.Skip{
		"nothing":         {},
		"no heads":        {Towers: skipByHand(put("a", 1, "x")).Towers},
		"4 heads":         {Heads: bareLinks(4)},
		"6 heads":         {Heads: bareLinks(6)},
		"a head too many": {Heads: []int{0, -1, -1, -1, -1}},
		"61 items":        skipByHand(someItems(61, 6)...),
		"an item twice":   skipByHand(put("a", 1, "x"), put("a", 1, "x")),
		"alike":           skipByHand(put("a", 1, "x"), gone("a", 1)),
		"a ring":          {Heads: []int{0, -1, -1, -1, -1}, Towers: []impl.Tower{{Item: towerItem("a", 1, 0), Next: []int{0}}}},
		"not linked":      {Heads: bareLinks(5), Towers: []impl.Tower{{Item: towerItem("a", 1, 0), Next: []int{-1}}}},
		"too high":        {Heads: []int{0, 0, -1, -1, -1}, Towers: []impl.Tower{{Item: towerItem("a", 1, 0), Next: []int{-1, -1}}}},
	}
	for fault, x := range badItems() {
		bad["item: "+fault] = skipByHand(x)
	}
	for fault, s := range bad {
		for _, k := range []kept{keptIn(greatestSeq, 1), keptIn(greatestSeq, 2, held(1, 0, put("z", 1, "x")))} {
			wantBadEngine(t, "Mem: "+fault, changedIn(k, func(e *impl.Engine) { e.Mem = s }))
		}
	}
}

func TestVersionOfAnEngineIsGood(t *testing.T) {
	for fault, v := range badVersions() {
		e := changedIn(keptIn(v.Seq, 1), func(e *impl.Engine) { e.Version = v })
		wantBadEngine(t, "version: "+fault, e)
		for _, m := range v.Metas {
			e.Tables = append(e.Tables, impl.Stored{Number: m.Number, Data: tableByHand([]impl.Item{put("k", 0, "v")})})
		}
		wantBadEngine(t, "version with tables: "+fault, e)
	}
}

func TestTablesAreThoseOfTheVersion(t *testing.T) {
	text := tableByHand([]impl.Item{put("p", 3, "x")})
	for name, k := range manyKept() {
		more := func(s impl.Stored) {
			t.Helper()
			e := changedIn(k, func(e *impl.Engine) { e.Tables = append(e.Tables, s) })
			wantBadEngine(t, name+", a table too many", e)
		}
		more(impl.Stored{Number: k.next, Data: text})
		more(impl.Stored{Number: k.next - 1, Data: text})
		more(impl.Stored{})
		if len(k.files) == 0 {
			continue
		}
		wantBadEngine(t, name+", no tables", changedIn(k, func(e *impl.Engine) { e.Tables = nil }))
		wantBadEngine(t, name+", the last is missing", changedIn(k, func(e *impl.Engine) { e.Tables = e.Tables[:len(e.Tables)-1] }))
		wantBadEngine(t, name+", the first is missing", changedIn(k, func(e *impl.Engine) { e.Tables = e.Tables[1:] }))
		wantBadEngine(t, name+", the first twice", changedIn(k, func(e *impl.Engine) { e.Tables = append(e.Tables[:1:1], e.Tables...) }))
		wantBadEngine(t, name+", no metas", changedIn(k, func(e *impl.Engine) { e.Version.Metas = nil }))
		wantBadEngine(t, name+", the last meta is missing", changedIn(k, func(e *impl.Engine) { e.Version.Metas = e.Version.Metas[:len(e.Version.Metas)-1] }))
		wantBadEngine(t, name+", the first meta is missing", changedIn(k, func(e *impl.Engine) { e.Version.Metas = e.Version.Metas[1:] }))
		if len(k.files) == 1 {
			continue
		}
		wantBadEngine(t, name+", falling", changedIn(k, func(e *impl.Engine) { slices.Reverse(e.Tables) }))
		wantBadEngine(t, name+", tables and metas falling", changedIn(k, func(e *impl.Engine) {
			slices.Reverse(e.Tables)
			slices.Reverse(e.Version.Metas)
		}))
		wantBadEngine(t, name+", a number twice", changedIn(k, func(e *impl.Engine) { e.Tables[1] = e.Tables[0] }))
		wantBadEngine(t, name+", numbers in each other's place", changedIn(k, func(e *impl.Engine) {
			e.Tables[0].Number, e.Tables[1].Number = e.Tables[1].Number, e.Tables[0].Number
		}))
	}
}

func TestTooManyTablesOfNoMetas(t *testing.T) {
	for _, n := range []int{1, 30, 31, 10000} {
		e := impl.NewEngine()
		e.Tables = slices.Repeat([]impl.Stored{{Number: 1, Data: tableByHand(byteRun(1))}}, n)
		wantBadEngine(t, fmt.Sprint(n, " tables"), e)
	}
}

func TestNumbersOfTables(t *testing.T) {
	for at, f := range fairKept().files {
		for number := range 11 {
			e := changedIn(fairKept(), func(e *impl.Engine) { e.Tables[at].Number = number })
			if number != f.number {
				wantBadEngine(t, fmt.Sprint("number ", number, " for ", f.number), e)
			}
		}
		for _, number := range []int{math.MinInt, -f.number, greatestNumber, greatestNext, math.MaxInt} {
			wantBadEngine(t, fmt.Sprint("number ", number), changedIn(fairKept(), func(e *impl.Engine) { e.Tables[at].Number = number }))
		}
	}
}

func TestTextsOfTables(t *testing.T) {
	k := fairKept()
	for at := range k.files {
		text := k.engine().Tables[at].Data
		other := k.engine().Tables[1-at].Data
		bad := []string{"", "\x00", text[1:], text + "\x00", text + text, other, sized(5000), blockByHand(k.files[at].items)}
		for n := range len(text) {
			bad = append(bad, text[:n], turned(text, 8*n+n%8))
		}
		for _, s := range bad {
			wantBadEngine(t, fmt.Sprintf("the text %.20q", s), changedIn(k, func(e *impl.Engine) { e.Tables[at].Data = s }))
		}
	}
}

// Each bit of a table turned is seen, whatever else the engine has.
func TestEveryTurnedBitOfATableIsSeen(t *testing.T) {
	k := fairKept()
	for at := range k.files {
		text := k.engine().Tables[at].Data
		for bit := range 8 * len(text) {
			e := changedIn(k, func(e *impl.Engine) { e.Tables[at].Data = turned(text, bit) })
			if impl.GoodEngine(e) {
				t.Errorf("good with bit %d of table %d turned", bit, at)
			}
		}
	}
}

func TestMetasHaveTheRangesOfTheirTables(t *testing.T) {
	for name, k := range manyKept() {
		for at, f := range k.files {
			change := func(least string, most string) {
				t.Helper()
				if least == f.least() && most == f.most() || len(least) > 16 || len(most) > 16 {
					return
				}
				e := changedIn(k, func(e *impl.Engine) { e.Version.Metas[at].Least, e.Version.Metas[at].Most = least, most })
				if impl.GoodEngine(e) {
					t.Errorf("%s: good with %q to %q for %q to %q", name, least, most, f.least(), f.most())
				}
			}
			change("\x00", f.most())
			change(f.least()+"\x00", f.most())
			change(f.least()[:len(f.least())-1], f.most())
			change(f.most(), f.most())
			change(f.least(), f.least())
			change(f.least(), f.most()+"\x00")
			change(f.least(), f.most()[:len(f.most())-1])
			change(f.least(), repeated(0xff, 16))
			change(f.most(), f.least())
			change("", "")
		}
	}
	for at := range fairKept().files {
		wantBadEngine(t, "Least one less", changedIn(fairKept(), func(e *impl.Engine) { e.Version.Metas[at].Least = "A" }))
		wantBadEngine(t, "Most one more", changedIn(fairKept(), func(e *impl.Engine) { e.Version.Metas[at].Most += "0" }))
	}
}

// The level of a meta is told by the version alone.
func TestAnyLevelOfAMeta(t *testing.T) {
	for level := -1; level <= 4; level++ {
		checkEngine(t, fmt.Sprint("level ", level), keptIn(9, 2, held(1, level, put("a", 1, "x"), put("c", 2, "x"))), level >= 0 && level <= 3)
		two := keptIn(9, 3, held(1, level, put("a", 1, "x"), put("c", 2, "x")), held(2, level, put("c", 3, "x"), put("e", 2, "x")))
		checkEngine(t, fmt.Sprint("two that have a key in common on level ", level), two, level == 0)
		within := keptIn(9, 3, held(1, level, put("a", 1, "x"), put("c", 2, "x")), held(2, level, put("b", 3, "x")))
		checkEngine(t, fmt.Sprint("one within another on level ", level), within, level == 0)
	}
}

func TestHowManyItemsAnEngineHas(t *testing.T) {
	for _, more := range []int{0, 1, 2, 30} {
		good := more == 0
		inTables := keptIn(9, 9, held(1, 0, rowOfItems(120, 1)...), held(2, 1, rowOfItems(120, 2)...), held(3, 2, rowOfItems(120, 3)...), held(4, 0, rowOfItems(40+more, 4)...))
		checkEngine(t, fmt.Sprint("400 and ", more, " in tables"), inTables, good)
		withMem := keptIn(2000000, 9, held(1, 0, rowOfItems(120, 1)...), held(2, 0, rowOfItems(120, 2)...), held(3, 1, rowOfItems(100+more%20, 3)...)).withMem(someItems(60, 7)...)
		checkEngine(t, fmt.Sprint("340 and ", more, " in tables, 60 in Mem"), withMem, more%20 == 0)
		if more <= 60 {
			few := keptIn(2000000, 9, held(1, 0, rowOfItems(120, 1)...), held(2, 0, rowOfItems(120, 2)...), held(3, 1, rowOfItems(120, 3)...), held(4, 1, put("z", 1, ""))).withMem(someItems(39, 7)...)
			few = few.withMem(append(few.mem, someItems(60, 8)[:more]...)...)
			checkEngine(t, fmt.Sprint("361 in tables, 39 and ", more, " in Mem"), few, good)
		}
	}
	var files []keptFile
	for i := range 30 {
		files = append(files, held(i+1, 0, rowOfItems(120, i)...))
	}
	checkEngine(t, "3600 in 30 tables", keptIn(50, 31, files...), false)
	checkEngine(t, "360 in 3 of these", keptIn(50, 31, files[3], files[7], files[29]), true)
}

func TestThirtyTablesOfThirteenItems(t *testing.T) {
	for _, last := range []int{23, 24} {
		var files []keptFile
		for i := range 29 {
			files = append(files, held(i+1, 0, rowOfItems(13, i)...))
		}
		k := keptIn(50, 31, append(files, held(30, 2, rowOfItems(last, 40)...))...)
		checkEngine(t, fmt.Sprint("377 and ", last), k, last == 23)
	}
}

func TestNoTwoItemsOfAnEngineAreAlike(t *testing.T) {
	first := put("k", 5, "v")
	others := map[string]impl.Item{
		"the same":      first,
		"another value": put("k", 5, "w"),
		"another kind":  gone("k", 5),
		"another Seq":   put("k", 4, "v"),
		"a greater Seq": put("k", 6, "v"),
		"another key":   put("kk", 5, "v"),
		"a key ahead":   put("j", 5, "v"),
	}
	for name, x := range others {
		good := x.Key != "k" || x.Seq != 5
		checkEngine(t, name+", both in Mem", keptIn(9, 9).withMem(first, x), good)
		checkEngine(t, name+", both in Mem, others between", keptIn(9, 9).withMem(first, put("a", 1, ""), put("z", 1, ""), x), good)
		for a := range 4 {
			checkEngine(t, name+", in Mem and a table", keptIn(9, 9, held(1, a, x)).withMem(first), good)
			checkEngine(t, name+", in Mem and a table, among others", keptIn(9, 9, held(1, a, put("a", 1, ""), x, put("z", 1, ""))).withMem(put("b", 2, ""), first, put("y", 2, "")), good)
			for b := range 4 {
				if a == b && a > 0 {
					continue
				}
				checkEngine(t, name+", in two tables", keptIn(9, 9, held(1, a, first), held(2, b, x)), good)
				checkEngine(t, name+", in the first and the last table", keptIn(9, 9, held(1, a, put("b", 1, ""), first), held(2, 0, put("k", 1, "")), held(5, b, x, put("m", 1, ""))), good)
			}
		}
	}
}

func TestZeroEngineIsNotGood(t *testing.T) {
	wantBadEngine(t, "the zero engine", impl.Engine{})
	wantBadEngine(t, "without Mem", impl.Engine{Version: impl.NewVersion()})
	wantBadEngine(t, "without a version", impl.Engine{Mem: impl.NewSkip()})
	e := impl.NewEngine()
	e.Tables = []impl.Stored{}
	if !impl.GoodEngine(e) {
		t.Error("an empty list of tables is not the same as none")
	}
}

// Good engines with one thing changed, good or not as the document's words tell.
func TestEnginesWithOneThingChanged(t *testing.T) {
	good, bad := 0, 0
	for seed := range 300 {
		d := dealingOf(seed)
		k := someKept(20, seed%30)
		e := changedIn(k, func(e *impl.Engine) { d.change(e) })
		is := isEngineByHand(e)
		if impl.GoodEngine(e) != is {
			t.Errorf("changed %d: GoodEngine %s: %v", seed, briefly(e), !is)
		}
		if is {
			good++
		} else {
			bad++
		}
	}
	if good < 20 || bad < 100 {
		t.Errorf("%d are good and %d are not: too few of one kind", good, bad)
	}
}

func (d *dealing) change(e *impl.Engine) {
	at := d.below(len(e.Tables))
	switch d.below(8) {
	case 0:
		e.Seq += d.below(5) - 2
		e.Version.Seq = e.Seq
	case 1:
		e.Version.Next += d.below(5) - 2
	case 2:
		e.Version.Metas[at].Level = d.below(5)
	case 3:
		e.Version.Metas[at].Least = fmt.Sprintf("k%02d", d.below(12))
	case 4:
		e.Tables[at].Number += d.below(3) - 1
	case 5:
		e.Tables[at].Data = e.Tables[d.below(len(e.Tables))].Data
	case 6:
		e.Mem = skipByHand(append(itemsIn(e.Mem), d.dealtItem(d.below(2*e.Seq)))...)
	default:
		e.Tables[at].Data = turned(e.Tables[at].Data, d.below(8*len(e.Tables[at].Data)))
	}
}
