package tests

import (
	"fmt"
	"testing"

	"loop.example/g00224/impl"
)

// A chain is an engine that steps are done to, beside the same done by hand, and every item that was ever told it. From floor on nothing that was told may be lost: something was compacted at it, and at no later Seq.
type chain struct {
	e     impl.Engine
	k     kept
	told  []impl.Item
	floor int
}

func newChain() chain {
	return chain{e: impl.NewEngine(), k: newKept()}
}

// write, flush and compact answer the chain as it was where the document's words tell false, and ask the program for the same.
func (c chain) write(t *testing.T, what string, l ...impl.Write) chain {
	t.Helper()
	k, is := c.k.written(l...)
	e, ok := impl.WriteBatch(c.e, l)
	if !is {
		wantNoEngine(t, what, e, ok)
		return c
	}
	wantEngine(t, what, e, ok, k)
	told := append(c.told[:len(c.told):len(c.told)], k.mem[len(c.k.mem):]...)
	return chain{e: e, k: k, told: told, floor: c.floor}
}

func (c chain) flush(t *testing.T, what string) chain {
	t.Helper()
	k, is := c.k.flushed()
	e, ok := impl.FlushEngine(c.e)
	if !is {
		wantNoEngine(t, what, e, ok)
		return c
	}
	wantEngine(t, what, e, ok, k)
	return chain{e: e, k: k, told: c.told, floor: c.floor}
}

func (c chain) compact(t *testing.T, what string, level int, seq int) chain {
	t.Helper()
	k, is := c.k.compacted(level, seq)
	e, ok := impl.CompactEngine(c.e, level, seq)
	if !is {
		wantNoEngine(t, what, e, ok)
		return c
	}
	wantEngine(t, what, e, ok, k)
	return chain{e: e, k: k, told: c.told, floor: max(c.floor, seq)}
}

// wantTold asks for what was told last, and for all that is seen from floor on, some Seqs apart.
func (c chain) wantTold(t *testing.T, what string, apart int) {
	t.Helper()
	wantItems(t, what, c.e, c.k.all())
	for seq := c.floor; seq <= c.e.Seq; seq += apart {
		wantScanned(t, what, c.e, c.told, "", "", seq)
	}
	wantScanned(t, what, c.e, c.told, "", "", c.e.Seq)
	for _, key := range fewKeys(c.told, 6) {
		wantGot(t, what, c.e, c.told, key, c.e.Seq)
	}
	if len(c.told) > 0 {
		last := c.told[len(c.told)-1]
		value, has, ok := impl.GetKey(c.e, last.Key, c.e.Seq)
		if value != last.Value || has != (last.Kind == impl.KindPut) || !ok {
			t.Errorf("%s: what was told last is %s: %q %v %v", what, shown(last), value, has, ok)
		}
	}
}

// wantBack asks for the engine from its checkpoint, where it has one.
func (c chain) wantBack(t *testing.T, what string) {
	t.Helper()
	l, is := c.k.checkpoint()
	if !is {
		wantNoCheckpoint(t, what, c.e)
		return
	}
	wantCheckpoint(t, what, c.e, l)
	e, ok := impl.OpenCheckpoint(l)
	wantEngine(t, what, e, ok, c.k)
}

// A chainStep does something to a chain; it is told by its name.
type chainStep struct {
	name string
	do   func(t *testing.T, what string, c chain) chain
}

func shortSteps() []chainStep {
	return []chainStep{
		{"put a", func(t *testing.T, what string, c chain) chain {
			return c.write(t, what, setTo("a", fmt.Sprint("a", c.k.seq)))
		}},
		{"del a, put b", func(t *testing.T, what string, c chain) chain { return c.write(t, what, unset("a"), setTo("b", "b")) }},
		{"flush", func(t *testing.T, what string, c chain) chain { return c.flush(t, what) }},
		{"compact 0", func(t *testing.T, what string, c chain) chain { return c.compact(t, what, 0, c.k.seq) }},
		{"compact 1", func(t *testing.T, what string, c chain) chain { return c.compact(t, what, 1, c.k.seq) }},
		{"compact 0 at 1", func(t *testing.T, what string, c chain) chain { return c.compact(t, what, 0, 1) }},
		{"compact 2 at one less", func(t *testing.T, what string, c chain) chain { return c.compact(t, what, 2, c.k.seq-1) }},
	}
}

// walk does every step behind a chain, and every one behind that, so deep; it tells how many chains there were.
func walk(t *testing.T, what string, c chain, deep int) int {
	c.wantTold(t, what, 1)
	c.wantBack(t, what)
	many := 1
	if deep == 0 {
		return many
	}
	for _, s := range shortSteps() {
		next := what + ", " + s.name
		many += walk(t, next, s.do(t, next, c), deep-1)
	}
	return many
}

// Every chain of up to five short steps from a new engine, and of up to four from some that have tables on several levels.
func TestAllShortChains(t *testing.T) {
	starts := map[string]func(t *testing.T) chain{
		"new": func(t *testing.T) chain { return newChain() },
		"two flushed": func(t *testing.T) chain {
			c := newChain().write(t, "start", setTo("a", "1"), setTo("c", "2")).flush(t, "start")
			return c.write(t, "start", unset("a"), setTo("b", "3")).flush(t, "start")
		},
		"on three levels": func(t *testing.T) chain {
			c := newChain().write(t, "start", setTo("a", "1"), setTo("c", "2")).flush(t, "start").compact(t, "start", 0, 0).compact(t, "start", 1, 0)
			c = c.write(t, "start", unset("a"), setTo("b", "3")).flush(t, "start").compact(t, "start", 0, 1)
			return c.write(t, "start", setTo("a", "4"), unset("c")).flush(t, "start")
		},
	}
	for name, start := range starts {
		t.Run(name, func(t *testing.T) {
			t.Parallel()
			deep := 4
			if name == "new" {
				deep = 5
			}
			if many := walk(t, name, start(t), deep); many < 2800 {
				t.Errorf("%d chains: too few", many)
			}
		})
	}
}

// A long chain has steps of all kinds, at any Seq, and is asked at each step for what it was told.
func longChain(t *testing.T, seed int, steps int) chain {
	d := dealingOf(seed)
	c := newChain()
	for i := range steps {
		what := fmt.Sprintf("seed %d, step %d", seed, i)
		before := c
		switch d.below(8) {
		case 0, 1, 2, 3:
			c = c.write(t, what+", write", d.writes(1+d.below(20))...)
		case 4, 5:
			c = c.flush(t, what+", flush")
		case 6:
			c = c.compact(t, what+", compact 0", 0, c.floor+d.below(c.k.seq-c.floor+1))
		default:
			c = c.compact(t, what+", compact", d.below(3), c.floor+d.below(c.k.seq-c.floor+1))
		}
		if !sameEngine(before.e, before.k.engine()) {
			t.Errorf("%s: the engine ahead is changed", what)
		}
		c.wantTold(t, what, 1+(c.k.seq-c.floor)/5)
		c.wantBack(t, what)
	}
	return c
}

func TestManyChains(t *testing.T) {
	deepest := make(chan int, 100)
	t.Run("all", func(t *testing.T) {
		for seed := range 16 {
			t.Run(fmt.Sprint(seed), func(t *testing.T) {
				t.Parallel()
				c := longChain(t, seed, 40)
				level := 0
				for _, f := range c.k.files {
					level = max(level, f.level)
				}
				deepest <- level
			})
		}
	})
	close(deepest)
	reached := 0
	for level := range deepest {
		if level == 3 {
			reached++
		}
	}
	if reached < 4 {
		t.Errorf("%d chains have tables on the last level: too few", reached)
	}
}

// What is flushed leaves all that is seen, at every Seq; what is compacted all from its Seq on.
func TestEachStepOfAChainLeavesWhatIsSeen(t *testing.T) {
	for seed := range 16 {
		t.Run(fmt.Sprint(seed), func(t *testing.T) {
			t.Parallel()
			d := dealingOf(seed + 77)
			c := newChain()
			for i := range 14 {
				what := fmt.Sprintf("seed %d, step %d", seed, i)
				c = c.write(t, what, d.writes(1+d.below(4))...)
				if d.below(2) == 0 {
					flushed := c.flush(t, what)
					wantSeenAlike(t, what+", flushed", c.e, flushed.e, c.k.all(), seqsFrom(0, c.e.Seq))
					c = flushed
				}
				for level := range 3 {
					seq := d.below(c.e.Seq + 1)
					compacted := c.compact(t, what, level, seq)
					wantSeenAlike(t, what+", compacted", c.e, compacted.e, c.k.all(), seqsFrom(seq, c.e.Seq))
					if d.below(3) == 0 {
						c = compacted
					}
				}
			}
		})
	}
}

func seqsFrom(first int, last int) []int {
	var l []int
	for seq := first; seq <= last; seq++ {
		l = append(l, seq)
	}
	return l
}

// A chain goes on, however much is written, as long as what is written over is compacted.
func TestAChainThatGoesOn(t *testing.T) {
	c := newChain()
	d := dealingOf(5)
	for i := range 60 {
		what := fmt.Sprint("round ", i)
		c = c.write(t, what, d.writes(20)...).write(t, what, d.writes(20)...).flush(t, what)
		c = c.compact(t, what, 0, c.k.seq)
		if i%3 == 2 {
			c = c.compact(t, what, 1, c.k.seq).compact(t, what, 2, c.k.seq)
		}
		c.wantTold(t, what, 1)
	}
	if c.e.Seq != 60*40 {
		t.Errorf("Seq %d, want %d: something was refused", c.e.Seq, 60*40)
	}
}

// A chain that is only written and flushed ends where there would be too many metas or items, and goes on when it is compacted.
func TestAChainThatIsFull(t *testing.T) {
	c := newChain()
	for i := range 31 {
		c = c.write(t, "write", setTo(numbered(i), "x")).flush(t, "flush")
	}
	if len(c.k.files) != 30 || len(c.k.mem) != 1 {
		t.Errorf("%d files, %d items in Mem", len(c.k.files), len(c.k.mem))
	}
	c.wantTold(t, "full of metas", 1)
	c = c.compact(t, "compact", 0, c.k.seq).flush(t, "flush again")
	c.wantTold(t, "compacted", 1)
	if len(c.k.files) != 3 || len(c.k.mem) != 0 {
		t.Errorf("%d files, %d items in Mem", len(c.k.files), len(c.k.mem))
	}
	for range 30 {
		c = c.write(t, "write many", rowOfWrites(20)...).flush(t, "flush many")
	}
	if n := len(c.k.all()); n != 391 {
		t.Errorf("%d items, of 31 and 18 times 20", n)
	}
	c.wantTold(t, "full of items", 13)
	c = c.compact(t, "compact many", 0, c.k.seq).write(t, "and on", rowOfWrites(20)...)
	c.wantTold(t, "on", 1)
	if n := len(c.k.all()); n != 51 {
		t.Errorf("%d items, of 31 and 20", n)
	}
}
