package tests

import (
	"fmt"
	"math"
	"slices"
	"testing"

	"loop.example/g00224/impl"
)

func TestNumbersOfNodes(t *testing.T) {
	if impl.MaxPeers != 7 || impl.RoleFollows != 0 || impl.RoleAsks != 1 || impl.RoleLeads != 2 {
		t.Error("the roles are others")
	}
	if impl.RaftAsk != 1 || impl.RaftVote != 2 || impl.RaftAppend != 3 || impl.RaftTold != 4 {
		t.Error("the kinds are others")
	}
}

func TestNewNode(t *testing.T) {
	for peers := -2; peers <= 9; peers++ {
		for id := -2; id <= 9; id++ {
			got, ok := impl.NewNode(id, peers)
			what := fmt.Sprintf("NewNode(%d, %d)", id, peers)
			if peers >= 1 && peers <= 7 && id >= 0 && id < peers {
				wantNode(t, what, got, ok, impl.RaftNode{Id: id, Peers: peers, Vote: -1})
			} else {
				wantNoNode(t, what, got, ok)
			}
		}
	}
	for _, n := range []int{math.MinInt, math.MaxInt} {
		got, ok := impl.NewNode(n, 3)
		wantNoNode(t, "an id beyond all", got, ok)
		got, ok = impl.NewNode(0, n)
		wantNoNode(t, "peers beyond all", got, ok)
		got, ok = impl.NewNode(n, n)
		wantNoNode(t, "both beyond all", got, ok)
	}
}

func TestNodesThatAreGood(t *testing.T) {
	for name, n := range manyNodes() {
		checkGoodNode(t, name, n, true)
	}
}

func TestNodesThatAreNotGood(t *testing.T) {
	for name, n := range badNodes() {
		checkGoodNode(t, name, n, false)
	}
}

// checkBounds sets a number of a node to its bounds and beyond them, by one and by far.
func checkBounds(t *testing.T, what string, least int, most int, set func(x int) impl.RaftNode) {
	t.Helper()
	for _, x := range []int{math.MinInt, least - 1, least, least + 1, most - 1, most, most + 1, math.MaxInt} {
		checkGoodNode(t, fmt.Sprint(what, " ", x), set(x), isWithin(x, least, most))
	}
}

func TestPeersOfANode(t *testing.T) {
	checkBounds(t, "Peers", 1, 7, func(x int) impl.RaftNode { return followingNode(0, x, 3, -1, logOf(1, 3), 1) })
	for peers := 1; peers <= 8; peers++ {
		match := make([]int, peers)
		checkGoodNode(t, fmt.Sprint("Peers of one that leads ", peers), leadingNode(0, peers, 1, nil, 0, match...), peers <= 7)
		// One alone has more than half with its own vote.
		checkGoodNode(t, fmt.Sprint("Peers of one that asks ", peers), askingNode(0, peers, 1, nil, 0, 0), isWithin(peers, 2, 7))
	}
}

func TestIdOfANode(t *testing.T) {
	for peers := 1; peers <= 7; peers++ {
		checkBounds(t, fmt.Sprint("Id among ", peers), 0, peers-1, func(x int) impl.RaftNode { return followingNode(x, peers, 3, -1, nil, 0) })
	}
	checkBounds(t, "Id of one that leads", 0, 4, func(x int) impl.RaftNode { return leadingNode(x, 5, 1, nil, 0, 0, 0, 0, 0, 0) })
	checkBounds(t, "Id of one that asks", 0, 4, func(x int) impl.RaftNode { return askingNode(x, 5, 1, nil, 0, x) })
}

func TestTermOfANode(t *testing.T) {
	checkBounds(t, "Term of one that follows", 0, 1000, func(x int) impl.RaftNode { return followingNode(1, 3, x, -1, nil, 0) })
	checkBounds(t, "Term of one that asks", 1, 1000, func(x int) impl.RaftNode { return askingNode(1, 3, x, nil, 0, 1) })
	checkBounds(t, "Term of one that leads", 1, 1000, func(x int) impl.RaftNode { return leadingNode(1, 3, x, nil, 0, 0, 0, 0) })
	checkBounds(t, "Term, with a log", 7, 1000, func(x int) impl.RaftNode { return followingNode(1, 3, x, 2, logOf(2, 7), 0) })
}

func TestVoteOfANode(t *testing.T) {
	for peers := 1; peers <= 7; peers++ {
		checkBounds(t, fmt.Sprint("Vote among ", peers), -1, peers-1, func(x int) impl.RaftNode { return followingNode(0, peers, 3, x, nil, 0) })
		checkBounds(t, fmt.Sprint("Vote of Term 0 among ", peers), -1, peers-1, func(x int) impl.RaftNode { return followingNode(0, peers, 0, x, nil, 0) })
	}
	for id := range 5 {
		for vote := -2; vote <= 5; vote++ {
			what := fmt.Sprint("Vote ", vote, " of ", id)
			asks := changedNode(askingNode(id, 5, 2, nil, 0, id), func(n *impl.RaftNode) { n.Vote = vote })
			checkGoodNode(t, what+" that asks", asks, vote == id)
			leads := changedNode(leadingNode(id, 5, 2, nil, 0, 0, 0, 0, 0, 0), func(n *impl.RaftNode) { n.Vote = vote })
			checkGoodNode(t, what+" that leads", leads, vote == id)
		}
	}
}

func TestLogOfANode(t *testing.T) {
	for many := 58; many <= 62; many++ {
		log := entriesOf(many, 4, 3)
		checkGoodNode(t, fmt.Sprint("entries ", many), followingNode(0, 3, 4, -1, log, 0), many <= 60)
		checkGoodNode(t, fmt.Sprint("entries that are led ", many), leadingNode(0, 3, 4, log, 0, many, 0, many), many <= 60)
	}
	bounds := [][2]int{{1, 3}, {2, 5}, {3, 9}}
	for at := range 3 {
		checkBounds(t, fmt.Sprint("the term at ", at), bounds[at][0], bounds[at][1], func(x int) impl.RaftNode {
			log := [][]impl.Entry{logOf(3, 3, 5), logOf(2, 3, 5), logOf(3, 3, 5)}[at]
			log[at].Term = x
			return followingNode(0, 3, 9, -1, log, 0)
		})
		for size, good := range map[int]bool{0: true, 99: true, 100: true, 101: false, 5000: false} {
			log := logOf(3, 3, 5)
			log[at].Data = sized(size)
			checkGoodNode(t, fmt.Sprint("data of ", size, " at ", at), followingNode(0, 3, 9, -1, log, 3), good)
		}
	}
	for term := 3; term <= 6; term++ {
		checkGoodNode(t, fmt.Sprint("terms up to 5 in Term ", term), followingNode(0, 3, term, -1, logOf(1, 4, 5), 0), term >= 5)
		checkGoodNode(t, fmt.Sprint("terms up to 5, led in Term ", term), leadingNode(0, 3, term, logOf(1, 4, 5), 0, 3, 0, 0), term >= 5)
	}
	for _, terms := range [][]int{{2, 1}, {1, 2, 1}, {1, 1, 3, 2}, {5, 4, 5}} {
		checkGoodNode(t, fmt.Sprint("terms that fall ", terms), followingNode(0, 3, 9, -1, logOf(terms...), 0), false)
	}
	checkGoodNode(t, "the greatest term", followingNode(0, 3, 1000, -1, logOf(1, 1000, 1000), 3), true)
	checkGoodNode(t, "a term of entries, not of nodes", followingNode(0, 3, 1000, -1, logOf(1, 1000, 1001), 3), false)
}

func TestCommitOfANode(t *testing.T) {
	for many := range 61 {
		log := entriesOf(many, 4, 3)
		checkBounds(t, fmt.Sprint("Commit of ", many, " entries"), 0, many, func(x int) impl.RaftNode { return followingNode(0, 3, 4, -1, log, x) })
	}
	checkBounds(t, "Commit of one that asks", 0, 2, func(x int) impl.RaftNode { return askingNode(0, 3, 4, logOf(1, 2), x, 0) })
	checkBounds(t, "Commit of one that leads", 0, 2, func(x int) impl.RaftNode { return leadingNode(0, 3, 4, logOf(1, 2), x, 2, 0, 0) })
}

func TestRoleOfANode(t *testing.T) {
	for _, role := range []int{math.MinInt, -1, 0, 1, 2, 3, math.MaxInt} {
		bare := changedNode(followingNode(1, 4, 3, 1, nil, 0), func(n *impl.RaftNode) { n.Role = role })
		checkGoodNode(t, fmt.Sprint("Role ", role, ", no lists"), bare, role == 0)
		voted := changedNode(bare, func(n *impl.RaftNode) { n.Votes = []int{1} })
		checkGoodNode(t, fmt.Sprint("Role ", role, ", Votes"), voted, role == 1)
		matched := changedNode(bare, func(n *impl.RaftNode) { n.Match = []int{0, 0, 0, 0} })
		checkGoodNode(t, fmt.Sprint("Role ", role, ", Match"), matched, role == 2)
		both := changedNode(voted, func(n *impl.RaftNode) { n.Match = []int{0, 0, 0, 0} })
		checkGoodNode(t, fmt.Sprint("Role ", role, ", both"), both, false)
	}
}

// allVotes are all lists of at most so many numbers that are in -1..peers.
func allVotes(peers int, many int) [][]int {
	l := [][]int{nil}
	for from := 0; many > 0; many-- {
		end := len(l)
		for _, ahead := range l[from:end] {
			for vote := -1; vote <= peers; vote++ {
				l = append(l, append(slices.Clone(ahead), vote))
			}
		}
		from = end
	}
	return l
}

func TestVotesOfANode(t *testing.T) {
	good := map[int]int{}
	for peers := 1; peers <= 7; peers++ {
		for id := range peers {
			for _, votes := range allVotes(peers, min(4, peers)) {
				n := askingNode(id, peers, 2, nil, 0, votes...)
				is := isNodeByHand(n)
				checkGoodNode(t, fmt.Sprint("Votes ", votes), n, is)
				if is {
					good[peers]++
				}
			}
		}
	}
	// Of each node the lots that have it and are at most half: of 2 one, of 3 one, of 4 one and three, and so on.
	if want := map[int]int{2: 2, 3: 3, 4: 16, 5: 25, 6: 96, 7: 154}; fmt.Sprint(good) != fmt.Sprint(want) {
		t.Errorf("so many Votes are good: %v, want %v", good, want)
	}
	checkGoodNode(t, "exactly half of 4", askingNode(0, 4, 1, nil, 0, 0, 3), true)
	checkGoodNode(t, "more than half of 4", askingNode(0, 4, 1, nil, 0, 0, 1, 3), false)
	checkGoodNode(t, "half of 5, less one half", askingNode(0, 5, 1, nil, 0, 0, 3), true)
	checkGoodNode(t, "more than half of 5", askingNode(0, 5, 1, nil, 0, 0, 1, 3), false)
	checkGoodNode(t, "exactly half of 2", askingNode(1, 2, 1, nil, 0, 1), true)
	checkGoodNode(t, "all of 2", askingNode(1, 2, 1, nil, 0, 0, 1), false)
	checkGoodNode(t, "three of 7", askingNode(6, 7, 1, nil, 0, 0, 3, 6), true)
	checkGoodNode(t, "four of 7", askingNode(6, 7, 1, nil, 0, 0, 3, 5, 6), false)
	checkGoodNode(t, "all of 7", askingNode(6, 7, 1, nil, 0, 0, 1, 2, 3, 4, 5, 6), false)
	checkGoodNode(t, "without Id", askingNode(1, 7, 1, nil, 0, 0, 3, 6), false)
	checkGoodNode(t, "alike", askingNode(3, 7, 1, nil, 0, 3, 3), false)
	checkGoodNode(t, "falling", askingNode(3, 7, 1, nil, 0, 3, 1), false)
	checkGoodNode(t, "far out of bounds", askingNode(3, 7, 1, nil, 0, 3, math.MaxInt), false)
	checkGoodNode(t, "far below", askingNode(3, 7, 1, nil, 0, math.MinInt, 3), false)
	checkGoodNode(t, "very many", askingNode(3, 7, 1, nil, 0, slices.Repeat([]int{3}, 5000)...), false)
}

func TestVotesOfANodeThatDoesNotAsk(t *testing.T) {
	for _, votes := range [][]int{{0}, {1}, {0, 1}, {-1}, {5}} {
		follows := followingNode(0, 5, 3, 0, logOf(1, 2), 1)
		follows.Votes = votes
		checkGoodNode(t, fmt.Sprint("follows with Votes ", votes), follows, false)
		leads := leadingNode(0, 5, 3, logOf(1, 2), 1, 2, 0, 0, 0, 0)
		leads.Votes = votes
		checkGoodNode(t, fmt.Sprint("leads with Votes ", votes), leads, false)
	}
}

func TestMatchOfANode(t *testing.T) {
	for peers := 1; peers <= 7; peers++ {
		for many := range 10 {
			match := slices.Repeat([]int{2}, many)
			checkGoodNode(t, fmt.Sprint("Match of ", many, " among ", peers), leadingNode(0, peers, 3, logOf(1, 2), 1, match...), many == peers)
		}
		for id := range peers {
			for at := range peers {
				set := func(x int) impl.RaftNode {
					match := slices.Repeat([]int{2}, peers)
					match[at] = x
					return leadingNode(id, peers, 3, logOf(1, 2), 1, match...)
				}
				least := 0
				if at == id {
					least = 2
				}
				checkBounds(t, fmt.Sprint("Match at ", at, " of ", id), least, 2, set)
			}
		}
	}
	full := entriesOf(60, 2, 1)
	checkGoodNode(t, "Match of a full log", leadingNode(1, 3, 2, full, 60, 60, 60, 60), true)
	checkGoodNode(t, "Match beyond a full log", leadingNode(1, 3, 2, full, 60, 60, 60, 61), false)
	checkGoodNode(t, "no Match of an empty log", leadingNode(1, 3, 2, nil, 0), false)
}

func TestMatchOfANodeThatDoesNotLead(t *testing.T) {
	for _, match := range [][]int{{0}, {2, 0, 0, 0, 0}, {2, 2, 2, 2, 2}, {-1}} {
		follows := followingNode(0, 5, 3, 0, logOf(1, 2), 1)
		follows.Match = match
		checkGoodNode(t, fmt.Sprint("follows with Match ", match), follows, false)
		asks := askingNode(0, 5, 3, logOf(1, 2), 1, 0)
		asks.Match = match
		checkGoodNode(t, fmt.Sprint("asks with Match ", match), asks, false)
	}
}

// The empty list and the nil list are the same.
func TestNodesWithEmptyLists(t *testing.T) {
	for name, n := range manyNodes() {
		if len(n.Log) == 0 {
			n.Log = []impl.Entry{}
		}
		if len(n.Votes) == 0 {
			n.Votes = []int{}
		}
		if len(n.Match) == 0 {
			n.Match = []int{}
		}
		checkGoodNode(t, name, n, true)
	}
	for _, role := range []int{impl.RoleAsks, impl.RoleLeads} {
		n := impl.RaftNode{Peers: 3, Term: 1, Role: role, Votes: []int{}, Match: []int{}}
		checkGoodNode(t, fmt.Sprint("empty lists, Role ", role), n, false)
	}
}

// manyNodes are good nodes of many kinds, the edges among them.
func manyNodes() map[string]impl.RaftNode {
	full := entriesOf(60, 9, 2)
	return map[string]impl.RaftNode{
		"new":                          {Peers: 3, Vote: -1},
		"new, not nil":                 {Peers: 3, Vote: -1, Log: []impl.Entry{}, Votes: []int{}, Match: []int{}},
		"new and alone":                {Peers: 1, Vote: -1},
		"new, the last of seven":       {Id: 6, Peers: 7, Vote: -1},
		"zero but for Peers":           {Peers: 1},
		"follows":                      followingNode(1, 3, 5, -1, logOf(1, 2, 2, 4), 2),
		"follows, has voted":           followingNode(1, 3, 5, 2, logOf(1, 2, 2, 4), 2),
		"follows, voted for itself":    followingNode(1, 3, 5, 1, logOf(1, 2, 2, 5), 2),
		"follows, nothing committed":   followingNode(1, 3, 5, 0, logOf(1, 2, 2, 4), 0),
		"follows, all committed":       followingNode(1, 3, 5, 0, logOf(1, 2, 2, 4), 4),
		"follows, full":                followingNode(0, 5, 9, -1, full, 30),
		"follows, full, all committed": followingNode(0, 5, 9, 1, full, 60),
		"follows in the last term":     followingNode(2, 4, 1000, -1, logOf(1000), 0),
		"follows next to the last":     followingNode(2, 4, 999, 3, logOf(7, 999), 1),
		"follows alone":                followingNode(0, 1, 3, 0, logOf(1, 3), 1),
		"asks":                         askingNode(1, 3, 5, logOf(1, 2, 2, 4), 2, 1),
		"asks, one of two":             askingNode(0, 2, 1, nil, 0, 0),
		"asks, two of four":            askingNode(2, 4, 7, logOf(6), 0, 0, 2),
		"asks, two of five":            askingNode(2, 5, 7, logOf(6, 7), 1, 2, 4),
		"asks, one of seven":           askingNode(6, 7, 4, logOf(1, 1), 2, 6),
		"asks, three of seven":         askingNode(3, 7, 4, logOf(1, 1), 0, 1, 3, 5),
		"asks in the last term":        askingNode(0, 3, 1000, logOf(999), 0, 0),
		"asks, full":                   askingNode(0, 3, 10, full, 59, 0),
		"leads":                        leadingNode(1, 3, 5, logOf(1, 2, 2, 5), 2, 0, 4, 3),
		"leads, new":                   leadingNode(0, 3, 5, logOf(1, 2, 2, 4), 2, 4, 0, 0),
		"leads alone":                  leadingNode(0, 1, 5, logOf(1, 2, 5), 1, 3),
		"leads alone, new":             leadingNode(0, 1, 1, nil, 0, 0),
		"leads alone, full":            leadingNode(0, 1, 9, full, 60, 60),
		"leads two":                    leadingNode(1, 2, 5, logOf(4, 5, 5), 1, 2, 3),
		"leads four":                   leadingNode(3, 4, 6, logOf(4, 6, 6, 6), 1, 3, 2, 0, 4),
		"leads five":                   leadingNode(2, 5, 6, logOf(4, 5, 6, 6), 1, 4, 2, 4, 0, 1),
		"leads five, may commit":       leadingNode(2, 5, 6, logOf(4, 5, 6, 6), 1, 4, 2, 4, 3, 1),
		"leads seven":                  leadingNode(6, 7, 9, logOf(1, 9, 9, 9, 9, 9), 1, 1, 2, 3, 4, 5, 6, 6),
		"leads, full":                  leadingNode(0, 3, 9, full, 30, 60, 31, 29),
		"leads, one below full":        leadingNode(0, 3, 9, full[:59], 30, 59, 59, 30),
		"leads, all committed":         leadingNode(0, 3, 9, full[:20], 20, 20, 20, 20),
		"leads in the last term":       leadingNode(1, 3, 1000, logOf(999, 1000), 0, 2, 2, 0),
	}
}

// badNodes are no good ones, by one thing each.
func badNodes() map[string]impl.RaftNode {
	follows, asks, leads := manyNodes()["follows"], manyNodes()["asks, three of seven"], manyNodes()["leads"]
	change := func(n impl.RaftNode, change func(n *impl.RaftNode)) impl.RaftNode { return changedNode(n, change) }
	return map[string]impl.RaftNode{
		"zero":                     {},
		"no peers":                 change(follows, func(n *impl.RaftNode) { n.Peers = 0 }),
		"Peers below":              change(follows, func(n *impl.RaftNode) { n.Peers = -1 }),
		"Peers beyond":             change(follows, func(n *impl.RaftNode) { n.Peers = 8 }),
		"Peers greatest":           change(follows, func(n *impl.RaftNode) { n.Peers = math.MaxInt }),
		"Id below":                 change(follows, func(n *impl.RaftNode) { n.Id = -1 }),
		"Id beyond":                change(follows, func(n *impl.RaftNode) { n.Id = 3 }),
		"Id of one that leads":     change(leads, func(n *impl.RaftNode) { n.Id, n.Vote = 3, 3 }),
		"Id least":                 change(leads, func(n *impl.RaftNode) { n.Id, n.Vote = math.MinInt, math.MinInt }),
		"Term below":               change(followingNode(0, 3, 0, -1, nil, 0), func(n *impl.RaftNode) { n.Term = -1 }),
		"Term beyond":              change(follows, func(n *impl.RaftNode) { n.Term = 1001 }),
		"Term below the log's":     change(follows, func(n *impl.RaftNode) { n.Term = 3 }),
		"Vote below":               change(follows, func(n *impl.RaftNode) { n.Vote = -2 }),
		"Vote beyond":              change(follows, func(n *impl.RaftNode) { n.Vote = 3 }),
		"61 entries":               followingNode(0, 3, 9, -1, entriesOf(61, 9, 1), 0),
		"61 entries, led":          leadingNode(0, 3, 9, entriesOf(61, 9, 1), 0, 61, 0, 0),
		"very many entries":        followingNode(0, 3, 9, -1, entriesOf(9000, 9, 1), 0),
		"an entry of term 0":       change(follows, func(n *impl.RaftNode) { n.Log[0].Term = 0 }),
		"an entry of 101 bytes":    change(follows, func(n *impl.RaftNode) { n.Log[3].Data = sized(101) }),
		"terms that fall":          change(follows, func(n *impl.RaftNode) { n.Log[2].Term = 1 }),
		"a term above":             change(follows, func(n *impl.RaftNode) { n.Log[3].Term = 6 }),
		"Commit below":             change(follows, func(n *impl.RaftNode) { n.Commit = -1 }),
		"Commit beyond":            change(follows, func(n *impl.RaftNode) { n.Commit = 5 }),
		"Commit greatest":          change(leads, func(n *impl.RaftNode) { n.Commit = math.MaxInt }),
		"Commit least":             change(leads, func(n *impl.RaftNode) { n.Commit = math.MinInt }),
		"Role below":               change(follows, func(n *impl.RaftNode) { n.Role = -1 }),
		"Role beyond":              change(follows, func(n *impl.RaftNode) { n.Role = 3 }),
		"Role of another":          change(asks, func(n *impl.RaftNode) { n.Role = impl.RoleLeads }),
		"Role of nobody's":         change(leads, func(n *impl.RaftNode) { n.Role = impl.RoleAsks }),
		"follows with Votes":       change(follows, func(n *impl.RaftNode) { n.Votes = []int{1} }),
		"follows with Match":       change(follows, func(n *impl.RaftNode) { n.Match = []int{4, 4, 4} }),
		"asks without Votes":       change(asks, func(n *impl.RaftNode) { n.Votes = nil }),
		"asks, Votes without Id":   change(asks, func(n *impl.RaftNode) { n.Votes = []int{1, 5} }),
		"asks, Votes alike":        change(asks, func(n *impl.RaftNode) { n.Votes = []int{3, 3} }),
		"asks, Votes falling":      change(asks, func(n *impl.RaftNode) { n.Votes = []int{5, 3} }),
		"asks, a vote below":       change(asks, func(n *impl.RaftNode) { n.Votes = []int{-1, 3} }),
		"asks, a vote beyond":      change(asks, func(n *impl.RaftNode) { n.Votes = []int{3, 7} }),
		"asks, more than half":     change(asks, func(n *impl.RaftNode) { n.Votes = []int{1, 3, 5, 6} }),
		"asks with Match":          change(asks, func(n *impl.RaftNode) { n.Match = make([]int, 7) }),
		"asks, another Vote":       change(asks, func(n *impl.RaftNode) { n.Vote = 1 }),
		"asks, no Vote":            change(asks, func(n *impl.RaftNode) { n.Vote = -1 }),
		"asks in Term 0":           askingNode(0, 3, 0, nil, 0, 0),
		"asks alone":               askingNode(0, 1, 3, nil, 0, 0),
		"leads without Match":      change(leads, func(n *impl.RaftNode) { n.Match = nil }),
		"leads, Match too short":   change(leads, func(n *impl.RaftNode) { n.Match = []int{0, 4} }),
		"leads, Match too long":    change(leads, func(n *impl.RaftNode) { n.Match = []int{0, 4, 3, 0} }),
		"leads, Match below":       change(leads, func(n *impl.RaftNode) { n.Match[0] = -1 }),
		"leads, Match beyond":      change(leads, func(n *impl.RaftNode) { n.Match[2] = 5 }),
		"leads, its own Match":     change(leads, func(n *impl.RaftNode) { n.Match[1] = 3 }),
		"leads, its own beyond":    change(leads, func(n *impl.RaftNode) { n.Match[1] = 5 }),
		"leads, Match of far away": change(leads, func(n *impl.RaftNode) { n.Match[0] = math.MaxInt }),
		"leads with Votes":         change(leads, func(n *impl.RaftNode) { n.Votes = []int{1} }),
		"leads, another Vote":      change(leads, func(n *impl.RaftNode) { n.Vote = 0 }),
		"leads, no Vote":           change(leads, func(n *impl.RaftNode) { n.Vote = -1 }),
		"leads in Term 0":          leadingNode(0, 3, 0, nil, 0, 0, 0, 0),
		"leads nobody":             {Role: impl.RoleLeads, Term: 1},
	}
}
