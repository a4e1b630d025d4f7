package tests

import (
	"encoding/binary"
	"fmt"
	"maps"
	"slices"
	"testing"

	"loop.example/g00224/impl"
)

func getting(session int, n int, key string) impl.Command {
	return impl.Command{Session: session, N: n, Op: impl.CmdGet, Key: key}
}

func putting(session int, n int, key string, value string) impl.Command {
	return impl.Command{Session: session, N: n, Op: impl.CmdPut, Key: key, Value: value}
}

func deleting(session int, n int, key string) impl.Command {
	return impl.Command{Session: session, N: n, Op: impl.CmdDelete, Key: key}
}

func swapping(session int, n int, key string, old string, value string) impl.Command {
	return impl.Command{Session: session, N: n, Op: impl.CmdSwap, Key: key, Value: value, Old: old}
}

func replied(code int, value string) impl.Reply {
	return impl.Reply{Code: code, Value: value}
}

func heard(id int, last int, code int, value string) impl.Session {
	return impl.Session{Id: id, Last: last, Reply: replied(code, value)}
}

// cellsNumbered are so many cells; the keys rise, and between any two of them there is room for another.
func cellsNumbered(many int) []impl.Pair {
	var l []impl.Pair
	for i := range many {
		l = append(l, pair(numbered(i), fmt.Sprint("v", i)))
	}
	return l
}

// sessionsNumbered are so many sessions; between any two of them there is room for another.
func sessionsNumbered(many int) []impl.Session {
	var l []impl.Session
	for i := range many {
		l = append(l, heard(2*i+1, 10+i, i%5, fmt.Sprint("r", i)))
	}
	return l
}

// fairState has three cells, one of them empty, and the sessions 1, 5 and 50.
func fairState() impl.KvState {
	return impl.KvState{
		Cells:    []impl.Pair{pair("b", "one"), pair("d", ""), pair("f", "three")},
		Sessions: []impl.Session{heard(1, 3, impl.ReplyOk, "was"), heard(5, 7, impl.ReplyDiffers, "x"), heard(50, 1, impl.ReplyNone, "")},
	}
}

func numberedState(cells int, sessions int) impl.KvState {
	return impl.KvState{Cells: cellsNumbered(cells), Sessions: sessionsNumbered(sessions)}
}

func copiedState(s impl.KvState) impl.KvState {
	return impl.KvState{Cells: slices.Clone(s.Cells), Sessions: slices.Clone(s.Sessions)}
}

func changedState(s impl.KvState, change func(s *impl.KvState)) impl.KvState {
	s = copiedState(s)
	change(&s)
	return s
}

func sameState(a impl.KvState, b impl.KvState) bool {
	return slices.Equal(a.Cells, b.Cells) && slices.Equal(a.Sessions, b.Sessions)
}

// What follows does by the document's words, without the program's functions, what is done with commands.

func isValueByHand(s string) bool {
	return len(s) <= 40
}

func isCommandByHand(c impl.Command) bool {
	mayHave := map[int]struct{ value, old bool }{1: {false, false}, 2: {true, false}, 3: {false, false}, 4: {true, true}}
	may, isOp := mayHave[c.Op]
	return isOp && isWithin(c.Session, 0, 99) && isWithin(c.N, 1, 1000000) && isKeyByHand(c.Key) &&
		isValueByHand(c.Value) && isValueByHand(c.Old) && (may.value || c.Value == "") && (may.old || c.Old == "")
}

// textByHand is the text of a command, be it good or not; its numbers are from 0 on.
func textByHand(c impl.Command) string {
	out := numberByLibrary(c.Session) + numberByLibrary(c.N) + string([]byte{byte(c.Op)})
	for _, s := range []string{c.Key, c.Value, c.Old} {
		out += numberByLibrary(len(s)) + s
	}
	return out
}

func commandBytesByHand(c impl.Command) (string, bool) {
	if !isCommandByHand(c) {
		return "", false
	}
	return textByHand(c), true
}

// numberAheadByHand answers a number in its own form at the front of a text, and what follows.
func numberAheadByHand(s string) (int, string, bool) {
	n, took := binary.Uvarint([]byte(s))
	if took <= 0 || n >= 1<<63 || s[:took] != numberByLibrary(int(n)) {
		return 0, "", false
	}
	return int(n), s[took:], true
}

func textAheadByHand(s string) (string, string, bool) {
	size, s, ok := numberAheadByHand(s)
	if !ok || size > len(s) {
		return "", "", false
	}
	return s[:size], s[size:], true
}

func readCommandByHand(s string) (impl.Command, bool) {
	var c impl.Command
	var ok bool
	if c.Session, s, ok = numberAheadByHand(s); !ok {
		return impl.Command{}, false
	}
	if c.N, s, ok = numberAheadByHand(s); !ok || s == "" {
		return impl.Command{}, false
	}
	c.Op, s = int(s[0]), s[1:]
	for _, text := range []*string{&c.Key, &c.Value, &c.Old} {
		if *text, s, ok = textAheadByHand(s); !ok {
			return impl.Command{}, false
		}
	}
	if s != "" || !isCommandByHand(c) {
		return impl.Command{}, false
	}
	return c, true
}

func isStateByHand(s impl.KvState) bool {
	var keys []string
	var ids []int
	for _, x := range s.Cells {
		if !isKeyByHand(x.Key) || !isValueByHand(x.Value) {
			return false
		}
		keys = append(keys, x.Key)
	}
	for _, x := range s.Sessions {
		if !isWithin(x.Id, 0, 99) || !isWithin(x.Last, 1, 1000000) || !isWithin(x.Reply.Code, 0, 4) || !isValueByHand(x.Reply.Value) {
			return false
		}
		ids = append(ids, x.Id)
	}
	return len(keys) <= 40 && len(ids) <= 12 &&
		slices.Equal(keys, slices.Compact(slices.Sorted(slices.Values(keys)))) &&
		slices.Equal(ids, slices.Compact(slices.Sorted(slices.Values(ids))))
}

// A store is what a state means: a map of cells and one of sessions.
type store struct {
	cells    map[string]string
	sessions map[int]impl.Session
}

func storeByHand(s impl.KvState) store {
	out := store{map[string]string{}, map[int]impl.Session{}}
	for _, x := range s.Cells {
		out.cells[x.Key] = x.Value
	}
	for _, x := range s.Sessions {
		out.sessions[x.Id] = x
	}
	return out
}

func (x store) state() impl.KvState {
	var s impl.KvState
	for _, key := range slices.Sorted(maps.Keys(x.cells)) {
		s.Cells = append(s.Cells, pair(key, x.cells[key]))
	}
	for _, id := range slices.Sorted(maps.Keys(x.sessions)) {
		s.Sessions = append(s.Sessions, x.sessions[id])
	}
	return s
}

func (x store) done(c impl.Command) impl.Reply {
	value, there := x.cells[c.Key]
	switch {
	case c.Op == impl.CmdPut && !there && len(x.cells) == 40:
		return replied(impl.ReplyBad, "")
	case c.Op == impl.CmdPut:
		x.cells[c.Key] = c.Value
		return replied(impl.ReplyOk, "")
	case !there:
		return replied(impl.ReplyNone, "")
	case c.Op == impl.CmdGet:
		return replied(impl.ReplyOk, value)
	case c.Op == impl.CmdDelete:
		delete(x.cells, c.Key)
		return replied(impl.ReplyOk, value)
	case value == c.Old:
		x.cells[c.Key] = c.Value
		return replied(impl.ReplyOk, "")
	}
	return replied(impl.ReplyDiffers, value)
}

// applied is ApplyCommand of a good state's meaning.
func (x store) applied(c impl.Command) impl.Reply {
	if !isCommandByHand(c) {
		return replied(impl.ReplyBad, "")
	}
	known, there := x.sessions[c.Session]
	switch {
	case !there && len(x.sessions) == 12:
		return replied(impl.ReplyBad, "")
	case there && c.N < known.Last:
		return replied(impl.ReplyStale, "")
	case there && c.N == known.Last:
		return known.Reply
	}
	r := x.done(c)
	x.sessions[c.Session] = impl.Session{Id: c.Session, Last: c.N, Reply: r}
	return r
}

func applyByHand(s impl.KvState, c impl.Command) (impl.KvState, impl.Reply) {
	if !isStateByHand(s) {
		return impl.KvState{}, replied(impl.ReplyBad, "")
	}
	x := storeByHand(s)
	r := x.applied(c)
	return x.state(), r
}

func foldByHand(l []impl.Command) (impl.KvState, []impl.Reply, bool) {
	if len(l) > 100 {
		return impl.KvState{}, nil, false
	}
	x := storeByHand(impl.KvState{})
	var replies []impl.Reply
	for _, c := range l {
		replies = append(replies, x.applied(c))
	}
	return x.state(), replies, true
}

func sessionByHand(s impl.KvState, id int) (impl.Session, bool) {
	if !isStateByHand(s) {
		return impl.Session{}, false
	}
	x, there := storeByHand(s).sessions[id]
	return x, there
}

func cellByHand(s impl.KvState, key string) (string, bool) {
	if !isStateByHand(s) {
		return "", false
	}
	value, there := storeByHand(s).cells[key]
	return value, there
}

// What follows are states and commands to be asked for.

func manyStates() map[string]impl.KvState {
	fair := fairState()
	l := map[string]impl.KvState{
		"the empty one":        {},
		"fair":                 fair,
		"cells alone":          {Cells: fair.Cells},
		"sessions alone":       {Sessions: fair.Sessions},
		"one cell":             {Cells: []impl.Pair{pair("d", "only")}},
		"one empty cell":       {Cells: []impl.Pair{pair("d", "")}, Sessions: []impl.Session{heard(0, 1, 0, "")}},
		"one session":          {Sessions: []impl.Session{heard(5, 500000, 4, "said")}},
		"full of cells":        numberedState(40, 3),
		"nearly full of cells": numberedState(39, 3),
		"full of sessions":     numberedState(3, 12),
		"nearly full of them":  numberedState(3, 11),
		"full of both":         numberedState(40, 12),
		"sessions at the ends": {Cells: fair.Cells, Sessions: []impl.Session{heard(0, 1, 4, sized(40)), heard(99, 1000000, 0, "")}},
		"great keys": {Cells: []impl.Pair{pair("\x00", sized(40)), pair(repeated(0, 16), ""), pair(sized(16), repeated(0, 40)), pair(repeated(0xff, 15), "x"),
			pair(repeated(0xff, 16), repeated(0xff, 40))}},
		"keys that begin alike": {Cells: []impl.Pair{pair("a", "1"), pair("a\x00", "2"), pair("aa", "3"), pair("ab", "4"), pair("b", "5")}},
	}
	for code := range 5 {
		for name, value := range map[string]string{"": "", " and a value": "v", " and the greatest value": sized(40)} {
			l[fmt.Sprint("code ", code, name)] = impl.KvState{Sessions: []impl.Session{heard(5, 7, code, value)}}
		}
	}
	for seed := range 12 {
		l[fmt.Sprint("drawn ", seed)] = dealingOf(seed).kvState(seed)
	}
	return l
}

func (d *dealing) key() string {
	return []string{"a", "b", "bb", "c", "d", "\x00", "\xff", sized(16)}[d.below(8)]
}

func (d *dealing) value() string {
	return []string{"", "v", "w", "x", sized(40)}[d.below(5)]
}

// command is good, of few sessions, numbers and keys, so that they meet often.
func (d *dealing) command(sessions int, numbers int) impl.Command {
	session, n := d.below(sessions), 1+d.below(numbers)
	switch key := d.key(); d.below(5) {
	case 0:
		return getting(session, n, key)
	case 1:
		return deleting(session, n, key)
	case 2:
		return swapping(session, n, key, d.value(), d.value())
	default:
		return putting(session, n, key, d.value())
	}
}

func (d *dealing) commands(many int, sessions int, numbers int) []impl.Command {
	var l []impl.Command
	for range many {
		l = append(l, d.command(sessions, numbers))
	}
	return l
}

// kvState is good, with so many cells and sessions as the seed tells.
func (d *dealing) kvState(seed int) impl.KvState {
	x := storeByHand(impl.KvState{})
	for range seed % 7 {
		x.cells[d.key()] = d.value()
	}
	for range seed % 5 {
		id := d.below(8)
		x.sessions[id] = heard(id, 1+d.below(6), d.below(5), d.value())
	}
	return x.state()
}

// commandsFor are commands of each kind at a state: of sessions that are there, with each N around their Last, and not there; of keys that are there and not, with Old alike and unlike.
func commandsFor(s impl.KvState) []impl.Command {
	type turn struct{ session, n int }
	turns := []turn{{0, 1}, {4, 5}, {99, 1000000}, {98, 3}}
	for _, place := range []int{0, len(s.Sessions) / 2, len(s.Sessions) - 1} {
		if isWithin(place, 0, len(s.Sessions)-1) {
			x := s.Sessions[place]
			turns = append(turns, turn{x.Id, x.Last - 1}, turn{x.Id, x.Last}, turn{x.Id, x.Last + 1}, turn{x.Id, 1}, turn{x.Id, 1000000})
		}
	}
	cells := []impl.Pair{pair("\x00", ""), pair("c", "v"), pair("n00a", ""), pair("z", "")}
	for _, place := range []int{0, len(s.Cells) / 2, len(s.Cells) - 1} {
		if isWithin(place, 0, len(s.Cells)-1) {
			cells = append(cells, s.Cells[place])
		}
	}
	var l []impl.Command
	for _, x := range turns {
		for _, y := range cells {
			l = append(l, getting(x.session, x.n, y.Key), deleting(x.session, x.n, y.Key), putting(x.session, x.n, y.Key, "new"), putting(x.session, x.n, y.Key, y.Value),
				putting(x.session, x.n, y.Key, ""), swapping(x.session, x.n, y.Key, y.Value, "new"), swapping(x.session, x.n, y.Key, y.Value+"x", "new"), swapping(x.session, x.n, y.Key, "", ""))
		}
	}
	return l
}

// What follows asks the program.

func checkCommand(t *testing.T, what string, c impl.Command) {
	t.Helper()
	if good := isCommandByHand(c); impl.GoodCommand(c) != good {
		t.Errorf("%s: GoodCommand of %s: %v", what, shown(c), !good)
	}
	want, is := commandBytesByHand(c)
	text, ok := impl.CommandBytes(c)
	if text != want || ok != is {
		t.Errorf("%s: CommandBytes of %s: %q %v, want %q %v", what, shown(c), text, ok, want, is)
	}
	if back, ok := impl.ReadCommand(text); is && (!ok || back != c) {
		t.Errorf("%s: ReadCommand: %s %v, want %s", what, shown(back), ok, shown(c))
	}
}

func wantGoodCommand(t *testing.T, what string, c impl.Command, good bool) {
	t.Helper()
	if impl.GoodCommand(c) != good {
		t.Errorf("%s: GoodCommand of %s: %v", what, shown(c), !good)
	}
	checkCommand(t, what, c)
}

// checkReadCommand holds ReadCommand against the document's words; it answers whether a command was read.
func checkReadCommand(t *testing.T, what string, s string) bool {
	t.Helper()
	want, is := readCommandByHand(s)
	got, ok := impl.ReadCommand(s)
	if got != want || ok != is {
		t.Errorf("%s: ReadCommand of %q: %s %v, want %s %v", what, s, shown(got), ok, shown(want), is)
	}
	return ok
}

func wantNoCommand(t *testing.T, what string, s string) {
	t.Helper()
	if got, ok := impl.ReadCommand(s); ok || got != (impl.Command{}) {
		t.Errorf("%s: ReadCommand of %q: %s %v, want nothing", what, s, shown(got), ok)
	}
	checkReadCommand(t, what, s)
}

func checkGoodState(t *testing.T, what string, s impl.KvState, good bool) {
	t.Helper()
	if isStateByHand(s) != good {
		t.Errorf("%s: the test itself is wrong: %s", what, shown(s))
	}
	if impl.GoodState(s) != good {
		t.Errorf("%s: GoodState of %s: %v", what, shown(s), !good)
	}
}

func wantState(t *testing.T, what string, got impl.KvState, want impl.KvState) {
	t.Helper()
	if !sameState(got, want) {
		t.Errorf("%s: the state is %s, want %s", what, shown(got), shown(want))
	}
	if !impl.GoodState(got) {
		t.Errorf("%s: the state is not good: %s", what, shown(got))
	}
	wantNothingBehind(t, what, got.Cells)
	wantNothingBehind(t, what, got.Sessions)
}

func wantReply(t *testing.T, what string, got impl.Reply, want impl.Reply) {
	t.Helper()
	if got != want {
		t.Errorf("%s: the reply is %s, want %s", what, shown(got), shown(want))
	}
}

// checkApply holds ApplyCommand against the document's words, and answers what it answers.
func checkApply(t *testing.T, what string, s impl.KvState, c impl.Command) (impl.KvState, impl.Reply) {
	t.Helper()
	what = fmt.Sprintf("%s: ApplyCommand of %s", what, shown(c))
	want, reply := applyByHand(s, c)
	got, r := impl.ApplyCommand(s, c)
	wantState(t, what, got, want)
	wantReply(t, what, r, reply)
	return got, r
}

// wantDone asks for a state with other cells, and the session with the command's N and the reply.
func wantDone(t *testing.T, what string, s impl.KvState, c impl.Command, r impl.Reply, cells ...impl.Pair) {
	t.Helper()
	got, told := impl.ApplyCommand(s, c)
	wantReply(t, what, told, r)
	if !slices.Equal(got.Cells, cells) {
		t.Errorf("%s: the cells are %s, want %s", what, shown(got.Cells), shown(cells))
	}
	want := impl.Session{Id: c.Session, Last: c.N, Reply: r}
	if !slices.Contains(got.Sessions, want) {
		t.Errorf("%s: the sessions are %s, want %s among them", what, shown(got.Sessions), shown(want))
	}
	checkApply(t, what, s, c)
}

// wantUnchanged asks for the state as it was, and a reply.
func wantUnchanged(t *testing.T, what string, s impl.KvState, c impl.Command, r impl.Reply) {
	t.Helper()
	got, told := impl.ApplyCommand(s, c)
	wantState(t, what, got, s)
	wantReply(t, what, told, r)
	checkApply(t, what, s, c)
}

// checkFold holds FoldCommands against the document's words, and answers what it answers.
func checkFold(t *testing.T, what string, l []impl.Command) (impl.KvState, []impl.Reply) {
	t.Helper()
	want, replies, is := foldByHand(l)
	got, told, ok := impl.FoldCommands(l)
	wantState(t, what+": FoldCommands", got, want)
	if ok != is || !slices.Equal(told, replies) {
		t.Errorf("%s: FoldCommands: %s %v, want %s %v", what, shown(told), ok, shown(replies), is)
	}
	wantNothingBehind(t, what+": FoldCommands", told)
	return got, told
}

func checkSessionOf(t *testing.T, what string, s impl.KvState, id int) {
	t.Helper()
	want, is := sessionByHand(s, id)
	if got, ok := impl.SessionOf(s, id); got != want || ok != is {
		t.Errorf("%s: SessionOf %d: %s %v, want %s %v", what, id, shown(got), ok, shown(want), is)
	}
}

func checkCellOf(t *testing.T, what string, s impl.KvState, key string) {
	t.Helper()
	want, is := cellByHand(s, key)
	if got, ok := impl.CellOf(s, key); got != want || ok != is {
		t.Errorf("%s: CellOf %q: %q %v, want %q %v", what, key, got, ok, want, is)
	}
}
