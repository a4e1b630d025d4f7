package tests

import (
	"fmt"
	"math"
	"slices"
	"testing"

	"loop.example/g00224/impl"
)

// A kindOfMsg tells what a message of a kind has.
type kindOfMsg struct {
	name    string
	bare    impl.RaftMsg
	full    impl.RaftMsg
	place   bool
	before  bool
	entries bool
	yes     bool
}

// kindsOfMsg are all four, for 3 peers: bare with all that it has zero, full with all that it has not zero.
func kindsOfMsg() []kindOfMsg {
	return []kindOfMsg{
		{name: "RaftAsk", bare: askMsg(0, 1, 5, 0, 0), full: askMsg(0, 1, 5, 4, 3), place: true, before: true},
		{name: "RaftVote", bare: voteMsg(0, 1, 5, false), full: voteMsg(0, 1, 5, true), yes: true},
		{name: "RaftAppend", bare: appendMsg(0, 1, 5, 0, 0, 0), full: appendMsg(0, 1, 5, 4, 3, 6, logOf(3, 3, 5)...), place: true, before: true, entries: true},
		{name: "RaftTold", bare: toldMsg(0, 1, 5, 0, false), full: toldMsg(0, 1, 5, 4, true), place: true, yes: true},
	}
}

// changedMsg is a message with one thing changed.
func changedMsg(m impl.RaftMsg, change func(m *impl.RaftMsg)) impl.RaftMsg {
	m.Entries = slices.Clone(m.Entries)
	change(&m)
	return m
}

// checkEachMsg asks of each kind, bare and full, whether it is good with one thing changed.
func checkEachMsg(t *testing.T, what string, peers int, change func(m *impl.RaftMsg), good func(k kindOfMsg) bool) {
	t.Helper()
	for _, k := range kindsOfMsg() {
		checkGoodMsg(t, k.name+", bare, "+what, changedMsg(k.bare, change), peers, good(k))
		checkGoodMsg(t, k.name+", full, "+what, changedMsg(k.full, change), peers, good(k))
	}
}

func ofEach(good bool) func(k kindOfMsg) bool {
	return func(k kindOfMsg) bool { return good }
}

func edgesOf(least int, most int) []int {
	return []int{math.MinInt, least - 1, least, least + 1, most - 1, most, most + 1, math.MaxInt}
}

func TestMessagesThatAreGood(t *testing.T) {
	for peers := -1; peers <= 9; peers++ {
		checkEachMsg(t, fmt.Sprint("for ", peers), peers, func(m *impl.RaftMsg) {}, ofEach(isWithin(peers, 2, 7)))
	}
	checkEachMsg(t, "for very many", math.MaxInt, func(m *impl.RaftMsg) {}, ofEach(false))
	checkEachMsg(t, "for very few", math.MinInt, func(m *impl.RaftMsg) {}, ofEach(false))
	checkGoodMsg(t, "zero", impl.RaftMsg{}, 3, false)
}

func TestKindOfAMessage(t *testing.T) {
	for _, kind := range []int{math.MinInt, -1, 0, 1, 2, 3, 4, 5, math.MaxInt} {
		for _, k := range kindsOfMsg() {
			set := func(m *impl.RaftMsg) { m.Kind = kind }
			checkGoodMsg(t, fmt.Sprint(k.name, ", bare, with kind ", kind), changedMsg(k.bare, set), 3, isWithin(kind, 1, 4))
			// A RaftAppend has all that a RaftAsk has, a RaftTold all that a RaftVote has; no other kind has all of another's.
			good := kind == k.full.Kind || kind == impl.RaftAppend && k.full.Kind == impl.RaftAsk || kind == impl.RaftTold && k.full.Kind == impl.RaftVote
			checkGoodMsg(t, fmt.Sprint(k.name, ", full, with kind ", kind), changedMsg(k.full, set), 3, good)
		}
	}
}

func TestPeersOfAMessage(t *testing.T) {
	for peers := 1; peers <= 8; peers++ {
		for from := -2; from <= 9; from++ {
			for to := -2; to <= 9; to++ {
				good := peers <= 7 && from != to && isWithin(from, 0, peers-1) && isWithin(to, 0, peers-1)
				checkEachMsg(t, fmt.Sprintf("from %d to %d of %d", from, to, peers), peers, func(m *impl.RaftMsg) { m.From, m.To = from, to }, ofEach(good))
			}
		}
	}
	for _, far := range []int{math.MinInt, math.MaxInt} {
		checkEachMsg(t, "from far away", 3, func(m *impl.RaftMsg) { m.From = far }, ofEach(false))
		checkEachMsg(t, "to far away", 3, func(m *impl.RaftMsg) { m.To = far }, ofEach(false))
	}
}

func TestTermOfAMessage(t *testing.T) {
	for _, term := range append(edgesOf(1, 1000), 4, 5, 6) {
		for _, k := range kindsOfMsg() {
			set := func(m *impl.RaftMsg) { m.Term = term }
			checkGoodMsg(t, fmt.Sprint(k.name, ", bare, in term ", term), changedMsg(k.bare, set), 3, isWithin(term, 1, 1000))
			// The full RaftAppend has an entry of term 5.
			least := 1
			if k.entries {
				least = 5
			}
			checkGoodMsg(t, fmt.Sprint(k.name, ", full, in term ", term), changedMsg(k.full, set), 3, isWithin(term, least, 1000))
		}
	}
}

func TestIndexOfAMessage(t *testing.T) {
	for _, index := range append(edgesOf(0, 60), edgesOf(0, 57)...) {
		for _, k := range kindsOfMsg() {
			set := func(m *impl.RaftMsg) { m.Index = index }
			most := 0
			if k.place {
				most = 60
			}
			checkGoodMsg(t, fmt.Sprint(k.name, ", bare, at ", index), changedMsg(k.bare, set), 3, isWithin(index, 0, most))
			// The full RaftAppend has three entries, which count with Index.
			if k.entries {
				most = 57
			}
			checkGoodMsg(t, fmt.Sprint(k.name, ", full, at ", index), changedMsg(k.full, set), 3, isWithin(index, 0, most))
		}
	}
}

func TestBeforeOfAMessage(t *testing.T) {
	for _, before := range append(edgesOf(0, 1000), 4, 5, 6) {
		checkEachMsg(t, fmt.Sprint("behind term ", before), 3, func(m *impl.RaftMsg) { m.Before = before }, func(k kindOfMsg) bool {
			return before == 0 || k.before && isWithin(before, 0, 1000)
		})
	}
}

func TestCommitOfAMessage(t *testing.T) {
	for _, commit := range append(edgesOf(0, 60), 7, 8) {
		checkEachMsg(t, fmt.Sprint("with Commit ", commit), 3, func(m *impl.RaftMsg) { m.Commit = commit }, func(k kindOfMsg) bool {
			return commit == 0 || k.entries && isWithin(commit, 0, 60)
		})
	}
}

func TestYesOfAMessage(t *testing.T) {
	for _, yes := range []bool{false, true} {
		checkEachMsg(t, fmt.Sprint("with Yes ", yes), 3, func(m *impl.RaftMsg) { m.Yes = yes }, func(k kindOfMsg) bool { return !yes || k.yes })
	}
}

func TestEntriesOfAMessage(t *testing.T) {
	for _, l := range [][]impl.Entry{nil, {}, logOf(1), logOf(5), logOf(1, 5, 5), logOf(1, 2, 3, 4)} {
		checkEachMsg(t, fmt.Sprint("with ", l), 3, func(m *impl.RaftMsg) { m.Entries = l }, func(k kindOfMsg) bool { return len(l) == 0 || k.entries })
	}
	for _, terms := range [][]int{{0}, {-1}, {6}, {5, 6}, {6, 6}, {2, 1}, {5, 4, 5}, {1, 2, 2, 1}, {0, 1}, {1000000}, {math.MinInt}, {math.MaxInt}} {
		checkEachMsg(t, fmt.Sprint("with terms ", terms), 3, func(m *impl.RaftMsg) { m.Entries = logOf(terms...) }, ofEach(false))
	}
	for at := range 3 {
		for _, size := range []int{0, 99, 100, 101, 5000} {
			set := func(m *impl.RaftMsg) {
				m.Entries = logOf(1, 2, 5)
				m.Entries[at].Data = sized(size)
			}
			checkEachMsg(t, fmt.Sprint("with data of ", size), 3, set, func(k kindOfMsg) bool { return k.entries && size <= 100 })
		}
	}
	// Terms are not held against Before: that is the log's to tell.
	checkGoodMsg(t, "entries behind a greater term", appendMsg(0, 1, 5, 1, 4, 0, logOf(2, 3)...), 3, true)
	checkGoodMsg(t, "behind a term that is above its own", appendMsg(0, 1, 5, 1, 6, 0, logOf(2, 3)...), 3, true)
	checkGoodMsg(t, "ahead of all, behind a term", appendMsg(0, 1, 5, 0, 3, 0, logOf(4)...), 3, true)
	checkGoodMsg(t, "entries of the greatest term", appendMsg(0, 1, 1000, 1, 1000, 0, logOf(1000, 1000)...), 3, true)
}

func TestIndexAndEntriesTogether(t *testing.T) {
	for index := range 63 {
		for _, many := range []int{0, 1, 2, 59 - index, 60 - index, 61 - index, 62 - index} {
			if many < 0 {
				continue
			}
			m := appendMsg(2, 0, 5, index, 1, 0, entriesOf(many, 5, 1)...)
			checkGoodMsg(t, fmt.Sprint(many, " entries behind ", index), m, 3, index+many <= 60)
		}
	}
	checkGoodMsg(t, "very many", appendMsg(2, 0, 5, 0, 0, 0, entriesOf(9000, 5, 1)...), 3, false)
	checkGoodMsg(t, "far below", appendMsg(2, 0, 5, -9000, 0, 0, entriesOf(9000, 5, 1)...), 3, false)
	checkGoodMsg(t, "below", appendMsg(2, 0, 5, -1, 0, 0, entriesOf(61, 5, 1)...), 3, false)
}

// badMsgs are no good messages for 3, by one thing each, to node 1 but where that is the thing.
func badMsgs() map[string]impl.RaftMsg {
	l := map[string]impl.RaftMsg{"zero": {}, "kind 5": {Kind: 5, From: 0, To: 1, Term: 5}}
	faults := map[string]func(m *impl.RaftMsg){
		"no kind":       func(m *impl.RaftMsg) { m.Kind = 0 },
		"from itself":   func(m *impl.RaftMsg) { m.From = 1 },
		"from below":    func(m *impl.RaftMsg) { m.From = -1 },
		"from beyond":   func(m *impl.RaftMsg) { m.From = 3 },
		"from far away": func(m *impl.RaftMsg) { m.From = math.MaxInt },
		"to below":      func(m *impl.RaftMsg) { m.To = -1 },
		"to beyond":     func(m *impl.RaftMsg) { m.To = 3 },
		"term 0":        func(m *impl.RaftMsg) { m.Term = 0 },
		"term below":    func(m *impl.RaftMsg) { m.Term = -5 },
		"term beyond":   func(m *impl.RaftMsg) { m.Term = 1001 },
		"index below":   func(m *impl.RaftMsg) { m.Index = -1 },
		"index beyond":  func(m *impl.RaftMsg) { m.Index = 61 },
		"index least":   func(m *impl.RaftMsg) { m.Index = math.MinInt },
		"index most":    func(m *impl.RaftMsg) { m.Index = math.MaxInt },
		"before below":  func(m *impl.RaftMsg) { m.Before = -1 },
		"before beyond": func(m *impl.RaftMsg) { m.Before = 1001 },
		"commit below":  func(m *impl.RaftMsg) { m.Commit = -1 },
		"commit beyond": func(m *impl.RaftMsg) { m.Commit = 61 },
		"terms fall":    func(m *impl.RaftMsg) { m.Entries = logOf(2, 1) },
		"a term above":  func(m *impl.RaftMsg) { m.Entries = logOf(6) },
		"bad entry":     func(m *impl.RaftMsg) { m.Entries = []impl.Entry{{Term: 1, Data: sized(101)}} },
		"61 entries":    func(m *impl.RaftMsg) { m.Index, m.Entries = 0, entriesOf(61, 1, 1) },
	}
	for _, k := range kindsOfMsg() {
		for fault, change := range faults {
			l[k.name+", bare: "+fault] = changedMsg(k.bare, change)
			l[k.name+", full: "+fault] = changedMsg(k.full, change)
		}
	}
	return l
}

func TestMessagesThatAreNotGood(t *testing.T) {
	for name, m := range badMsgs() {
		checkGoodMsg(t, name, m, 3, false)
		for role, n := range map[string]impl.RaftNode{
			"follows": followingNode(1, 3, 5, -1, logOf(1, 2, 3, 3, 5), 1),
			"asks":    askingNode(1, 3, 5, logOf(1, 2, 3, 3, 5), 1, 1),
			"leads":   leadingNode(1, 3, 5, logOf(1, 2, 3, 3, 5), 1, 0, 5, 2),
			"behind":  followingNode(1, 3, 0, -1, nil, 0),
		} {
			wantNotHandled(t, role+", "+name, n, m)
		}
	}
}
