package tests

import (
	"hash/crc32"
	"slices"
	"sort"
	"strconv"
	"testing"

	"loop.example/g00224/impl"
)

const greatestSeq = 1000000000

func sumByLibrary(s string) uint32 {
	return crc32.Checksum([]byte(s), crc32.MakeTable(crc32.Castagnoli))
}

func heightByHand(key string, seq int) int {
	sum := sumByLibrary(key + strconv.Itoa(seq))
	height := 1
	for height < 5 && sum%4 == 0 {
		sum /= 4
		height++
	}
	return height
}

func put(key string, seq int, value string) impl.Item {
	return impl.Item{Key: key, Seq: seq, Kind: impl.KindPut, Value: value}
}

func gone(key string, seq int) impl.Item {
	return impl.Item{Key: key, Seq: seq, Kind: impl.KindDelete}
}

func lessByHand(a impl.Item, b impl.Item) bool {
	if a.Key != b.Key {
		return a.Key < b.Key
	}
	return a.Seq > b.Seq
}

func inOrder(l []impl.Item) []impl.Item {
	out := slices.Clone(l)
	sort.SliceStable(out, func(i int, j int) bool { return lessByHand(out[i], out[j]) })
	return out
}

// onLevel are those of the items that are so high, in order.
func onLevel(l []impl.Item, level int) []impl.Item {
	var out []impl.Item
	for _, x := range inOrder(l) {
		if heightByHand(x.Key, x.Seq) > level {
			out = append(out, x)
		}
	}
	return out
}

// towerItem is the nth item of a key, by rising Seq, whose tower is so high.
func towerItem(key string, height int, nth int) impl.Item {
	for seq := 0; ; seq++ {
		if heightByHand(key, seq) == height {
			if nth == 0 {
				return put(key, seq, key)
			}
			nth--
		}
	}
}

// someItems makes n items of which no two have one Seq, of keys of all sizes, several of one key.
func someItems(n int, seed int) []impl.Item {
	var l []impl.Item
	for i := range n {
		kind := (i*5 + seed) % (n/2 + 1)
		key, seq := mixed(1+kind%16, kind), (i*7919+seed*31)%1000003
		if i%3 == 0 {
			l = append(l, gone(key, seq))
		} else {
			l = append(l, put(key, seq, mixed(i%41, i)))
		}
	}
	return l
}

// bareTowers have their heights, and nothing behind them.
func bareTowers(l []impl.Item) []impl.Tower {
	var out []impl.Tower
	for _, x := range l {
		out = append(out, impl.Tower{Item: x, Next: bareLinks(heightByHand(x.Key, x.Seq))})
	}
	return out
}

func bareLinks(n int) []int {
	return slices.Repeat([]int{-1}, n)
}

// linkedUp makes a list of towers as high as they are told, whatever stands in them.
func linkedUp(towers []impl.Tower) impl.Skip {
	s := impl.Skip{Heads: bareLinks(5), Towers: towers}
	for level := range s.Heads {
		var numbers []int
		for i, t := range towers {
			if len(t.Next) > level {
				numbers = append(numbers, i)
			}
		}
		sort.SliceStable(numbers, func(i int, j int) bool {
			return lessByHand(towers[numbers[i]].Item, towers[numbers[j]].Item)
		})
		relink(s, level, numbers...)
	}
	return s
}

// relink puts just these towers on a level, one behind the other.
func relink(s impl.Skip, level int, numbers ...int) {
	links := s.Heads
	for _, n := range numbers {
		links[level] = n
		links = s.Towers[n].Next
	}
	links[level] = -1
}

func skipByHand(l ...impl.Item) impl.Skip {
	return linkedUp(bareTowers(l))
}

// numbersOn are the numbers of the towers on a level, in order.
func numbersOn(s impl.Skip, level int) []int {
	var out []int
	for at := s.Heads[level]; at != -1; at = s.Towers[at].Next[level] {
		out = append(out, at)
	}
	return out
}

func itemsIn(s impl.Skip) []impl.Item {
	var l []impl.Item
	for _, t := range s.Towers {
		l = append(l, t.Item)
	}
	return l
}

// everyHeight has two items of each height, the high ones neither first nor last.
func everyHeight() []impl.Item {
	var l []impl.Item
	for i, height := range []int{2, 5, 1, 3, 4, 1, 4, 2, 5, 3} {
		l = append(l, towerItem(string(rune('a'+i*7%10*2)), height, i))
	}
	return l
}

// edgeItems meet every limit of an item.
func edgeItems() []impl.Item {
	return []impl.Item{
		put("a", 0, ""), put("a", greatestSeq, sized(40)), gone("a", 5), gone(sized(16), 0), gone(sized(16), greatestSeq),
		put(sized(16), 7, sized(40)), put("\x00", 1, "\x00"), put("\xff", 1, mixed(40, 1)), put(repeated(0xff, 16), 3, ""), put(repeated(0, 16), 3, "x"),
	}
}

// alikeKeys are items of one key, a Seq apart, and of keys beside it.
func alikeKeys() []impl.Item {
	l := []impl.Item{put("k", 12, "k"), put("m", 12, "m"), put("ka", 9, "ka")}
	for i := range 25 {
		l = append(l, put("kk", (i*7%25)*2+10, strconv.Itoa(i)))
	}
	return l
}

// manySkips are good lists of many kinds, made without the program.
func manySkips() map[string]impl.Skip {
	up, down := inOrder(someItems(40, 3)), inOrder(someItems(40, 4))
	slices.Reverse(down)
	return map[string]impl.Skip{
		"new":           skipByHand(),
		"new, not nil":  {Heads: bareLinks(5), Towers: []impl.Tower{}},
		"one low":       skipByHand(towerItem("low", 1, 0)),
		"one high":      skipByHand(towerItem("high", 5, 0)),
		"two":           skipByHand(towerItem("b", 5, 0), towerItem("a", 2, 0)),
		"edges":         skipByHand(edgeItems()...),
		"every height":  skipByHand(everyHeight()...),
		"alike keys":    skipByHand(alikeKeys()...),
		"rising":        skipByHand(up...),
		"falling":       skipByHand(down...),
		"all but full":  skipByHand(someItems(59, 5)...),
		"full":          skipByHand(someItems(60, 6)...),
		"full, one key": skipByHand(oneKey(60)...),
	}
}

func oneKey(n int) []impl.Item {
	var l []impl.Item
	for i := range n {
		l = append(l, put("one", i*i, numbered(i)))
	}
	return l
}

func sameTower(a impl.Tower, b impl.Tower) bool {
	return a.Item == b.Item && slices.Equal(a.Next, b.Next)
}

func sameSkip(a impl.Skip, b impl.Skip) bool {
	return slices.Equal(a.Heads, b.Heads) && slices.EqualFunc(a.Towers, b.Towers, sameTower)
}

// copied is a list of its own memory.
func copied(s impl.Skip) impl.Skip {
	out := impl.Skip{Heads: slices.Clone(s.Heads), Towers: slices.Clone(s.Towers)}
	for i, t := range out.Towers {
		out.Towers[i].Next = slices.Clone(t.Next)
	}
	return out
}

// roomySkip copies a list into lists with something behind their lengths.
func roomySkip(s impl.Skip) impl.Skip {
	out := copied(s)
	for i, t := range out.Towers {
		out.Towers[i].Next = roomy(t.Next, 7)
	}
	out.Heads = roomy(out.Heads, 7)
	out.Towers = roomy(out.Towers, impl.Tower{Item: put("behind", 7, "behind"), Next: []int{7}})
	return out
}

func untouchedSkip(got impl.Skip, s impl.Skip) bool {
	made := roomySkip(s)
	for i, t := range got.Towers {
		if !slices.Equal(whole(t.Next), whole(made.Towers[i].Next)) {
			return false
		}
	}
	return sameSkip(got, s) && slices.Equal(whole(got.Heads), whole(made.Heads)) &&
		slices.EqualFunc(whole(got.Towers)[len(got.Towers):], whole(made.Towers)[len(made.Towers):], sameTower)
}

// scribbleSkip writes over all of a list's memory.
func scribbleSkip(s impl.Skip) {
	for _, t := range s.Towers {
		fill(whole(t.Next), 99)
	}
	fill(whole(s.Heads), 99)
	fill(whole(s.Towers), impl.Tower{Item: put("scribble", 99, "scribble")})
}

func wantSkip(t *testing.T, what string, got impl.Skip, ok bool, want impl.Skip) {
	t.Helper()
	if !ok || !sameSkip(got, want) {
		t.Errorf("%s: %s %v, want %s", what, shown(got), ok, shown(want))
	}
	if ok && !impl.GoodSkip(got) {
		t.Errorf("%s: the list is not good", what)
	}
}

func wantNoInsert(t *testing.T, what string, s impl.Skip, x impl.Item) {
	t.Helper()
	if got, ok := impl.InsertSkip(s, x); ok || !sameSkip(got, impl.Skip{}) {
		t.Errorf("%s: InsertSkip %s: %s %v, want nothing", what, shown(x), shown(got), ok)
	}
}

func wantSeek(t *testing.T, what string, s impl.Skip, key string, seq int, want impl.Item, looked int) {
	t.Helper()
	if x, n, ok := impl.SeekSkip(s, key, seq); x != want || n != looked || !ok {
		t.Errorf("%s: SeekSkip %q %d: %s %d %v, want %s %d", what, key, seq, shown(x), n, ok, shown(want), looked)
	}
}

func wantNoSeek(t *testing.T, what string, s impl.Skip, key string, seq int) {
	t.Helper()
	if x, n, ok := impl.SeekSkip(s, key, seq); x != (impl.Item{}) || n != 0 || ok {
		t.Errorf("%s: SeekSkip %.40q %d: %s %d %v, want nothing", what, key, seq, shown(x), n, ok)
	}
}

func wantFind(t *testing.T, what string, s impl.Skip, key string, seq int, want impl.Item) {
	t.Helper()
	if x, ok := impl.FindSkip(s, key, seq); x != want || !ok {
		t.Errorf("%s: FindSkip %q %d: %s %v, want %s", what, key, seq, shown(x), ok, shown(want))
	}
}

func wantNoFind(t *testing.T, what string, s impl.Skip, key string, seq int) {
	t.Helper()
	if x, ok := impl.FindSkip(s, key, seq); x != (impl.Item{}) || ok {
		t.Errorf("%s: FindSkip %.40q %d: %s %v, want nothing", what, key, seq, shown(x), ok)
	}
}

func wantLevel(t *testing.T, what string, s impl.Skip, level int, want []impl.Item) {
	t.Helper()
	if l, ok := impl.ListSkip(s, level); !slices.Equal(l, want) || !ok {
		t.Errorf("%s: ListSkip of level %d: %s %v, want %s", what, level, shown(l), ok, shown(want))
	}
}

func wantNoLevel(t *testing.T, what string, s impl.Skip, level int) {
	t.Helper()
	if l, ok := impl.ListSkip(s, level); len(l) != 0 || ok {
		t.Errorf("%s: ListSkip of level %d: %s %v, want nothing", what, level, shown(l), ok)
	}
}

// wantBadSkip asks every function for the answer that a list that is not good gets.
func wantBadSkip(t *testing.T, what string, s impl.Skip) {
	t.Helper()
	if impl.GoodSkip(s) {
		t.Errorf("%s: %s is good", what, shown(s))
	}
	wantNoInsert(t, what, s, put("new", 3, "x"))
	wantNoSeek(t, what, s, "\x00", greatestSeq)
	wantNoFind(t, what, s, "a", greatestSeq)
	for _, x := range itemsIn(s) {
		wantNoFind(t, what, s, x.Key, x.Seq)
	}
	for level := range 5 {
		wantNoLevel(t, what, s, level)
	}
}
