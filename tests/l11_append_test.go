package tests

import (
	"fmt"
	"slices"
	"testing"

	"loop.example/g00224/impl"
)

// A RaftAppend.

func TestAppendOfALesserTerm(t *testing.T) {
	log := logOf(1, 3)
	for name, n := range map[string]impl.RaftNode{
		"follows": followingNode(1, 3, 5, -1, log, 1),
		"asks":    askingNode(1, 3, 5, log, 1, 1),
		"leads":   leadingNode(1, 3, 5, log, 1, 0, 2, 0),
	} {
		for _, m := range []impl.RaftMsg{
			appendMsg(0, 1, 4, 0, 0, 0), appendMsg(0, 1, 4, 2, 3, 2, logOf(4)...), appendMsg(0, 1, 1, 1, 1, 60, logOf(1, 1)...), appendMsg(0, 1, 4, 60, 9, 60),
		} {
			wantHandled(t, name, n, m, n, toldMsg(1, 0, 5, 0, false))
		}
	}
}

// Of the same Term or a greater one it follows, whatever it was; of the same one its Vote stays.
func TestAppendMakesANodeFollow(t *testing.T) {
	log := logOf(1, 3)
	m := appendMsg(0, 1, 5, 2, 3, 0)
	for name, n := range map[string]impl.RaftNode{
		"follows":            followingNode(1, 3, 5, -1, log, 1),
		"follows, has voted": followingNode(1, 3, 5, 2, log, 1),
		"asks":               askingNode(1, 3, 5, log, 1, 1),
		"leads":              leadingNode(1, 3, 5, log, 1, 0, 2, 0),
	} {
		wantHandled(t, name+", same", n, m, followingNode(1, 3, 5, n.Vote, log, 1), toldMsg(1, 0, 5, 2, true))
		for _, term := range []int{6, 1000} {
			greater := m
			greater.Term = term
			wantHandled(t, name+", greater", n, greater, followingNode(1, 3, term, -1, log, 1), toldMsg(1, 0, term, 2, true))
			greater.Before = 2
			wantHandled(t, name+", greater, no match", n, greater, followingNode(1, 3, term, -1, log, 1), toldMsg(1, 0, term, 1, false))
		}
		noMatch := m
		noMatch.Index = 3
		wantHandled(t, name+", same, no match", n, noMatch, followingNode(1, 3, 5, n.Vote, log, 1), toldMsg(1, 0, 5, 2, false))
	}
}

// What two that lead in one Term would do to each other: the one that is told follows, and its Commit is not counted on.
func TestAppendToOneThatLeads(t *testing.T) {
	n := leadingNode(1, 3, 5, logOf(1, 5, 5), 1, 3, 3, 3)
	wantHandled(t, "follows", n, appendMsg(0, 1, 5, 1, 1, 1), followingNode(1, 3, 5, 1, n.Log, 1), toldMsg(1, 0, 5, 1, true))
	other := []impl.Entry{{Term: 3, Data: "other"}}
	wantHandled(t, "is cut", n, appendMsg(0, 1, 5, 1, 1, 9, other...), followingNode(1, 3, 5, 1, append(logOf(1), other...), 2), toldMsg(1, 0, 5, 2, true))
}

func TestAppendBeyondTheLog(t *testing.T) {
	for many := range 5 {
		log := logOf(1, 2, 2, 4)[:many]
		n := followingNode(1, 3, 5, -1, log, 0)
		for index := many + 1; index <= 60; index++ {
			for _, before := range []int{0, 1, 4, 5, 1000} {
				m := appendMsg(0, 1, 5, index, before, 3)
				if index < 60 {
					m.Entries = logOf(5)
				}
				// The lesser of the last index and Index less 1.
				wantHandled(t, fmt.Sprint("at ", index, " of ", many), n, m, n, toldMsg(1, 0, 5, many, false))
			}
		}
	}
}

func TestAppendWithAnotherTermAhead(t *testing.T) {
	log := logOf(1, 2, 2, 4)
	n := followingNode(1, 3, 5, -1, log, 2)
	for index, term := range []int{0, 1, 2, 2, 4} {
		for before := range 7 {
			m := appendMsg(0, 1, 5, index, before, 0, logOf(5)...)
			what := fmt.Sprint("behind ", index, " of term ", before)
			if before != term {
				wantHandled(t, what, n, m, n, toldMsg(1, 0, 5, max(index-1, 0), false))
			} else if index < 2 {
				// The entry there is committed and of another term.
				wantNotHandled(t, what, n, m)
			} else {
				log := logWith(log[:index], 5, "1 of 5")
				wantHandled(t, what, n, m, followingNode(1, 3, 5, -1, log, 2), toldMsg(1, 0, 5, index+1, true))
			}
		}
	}
	wantHandled(t, "at 0 behind a term, empty log", followingNode(1, 3, 5, -1, nil, 0), appendMsg(0, 1, 5, 0, 3, 0), followingNode(1, 3, 5, -1, nil, 0), toldMsg(1, 0, 5, 0, false))
}

func TestAppendToAnEmptyLog(t *testing.T) {
	n, _ := impl.NewNode(1, 3)
	for many := range 4 {
		l := logOf(1, 1, 2)[:many]
		for commit := range 5 {
			want := followingNode(1, 3, 2, -1, l, min(commit, many))
			wantHandled(t, fmt.Sprint(many, " entries, Commit ", commit), n, appendMsg(2, 1, 2, 0, 0, commit, l...), want, toldMsg(1, 2, 2, many, true))
		}
	}
	full := entriesOf(60, 2, 3)
	wantHandled(t, "a full log", n, appendMsg(2, 1, 2, 0, 0, 60, full...), followingNode(1, 3, 2, -1, full, 60), toldMsg(1, 2, 2, 60, true))
}

// Entries that are there already: what lies behind them stays, and so does the data of those that are there.
func TestAppendOfWhatIsThere(t *testing.T) {
	log := logOf(1, 2, 2, 4, 5)
	for index, before := range []int{0, 1, 2, 2, 4, 5} {
		for many := range 6 - index {
			for commit := range 6 {
				n := followingNode(1, 3, 5, 0, log, 1)
				m := appendMsg(0, 1, 5, index, before, commit, log[index:index+many]...)
				want := followingNode(1, 3, 5, 0, log, max(1, min(commit, index+many)))
				wantHandled(t, fmt.Sprint(many, " behind ", index, ", Commit ", commit), n, m, want, toldMsg(1, 0, 5, index+many, true))
			}
		}
	}
	other := slices.Clone(log)
	for i := range other {
		other[i].Data = "another"
	}
	n := followingNode(1, 3, 5, 0, log, 1)
	wantHandled(t, "the same terms", n, appendMsg(0, 1, 5, 0, 0, 0, other...), n, toldMsg(1, 0, 5, 5, true))
	longer := logWith(other, 5, "more")
	wantHandled(t, "the same terms and one more", n, appendMsg(0, 1, 5, 0, 0, 0, longer...), followingNode(1, 3, 5, 0, logWith(log, 5, "more"), 1), toldMsg(1, 0, 5, 6, true))
}

func TestAppendThatGoesOn(t *testing.T) {
	log := logOf(1, 2, 2, 4, 5, 5, 5)
	for have := range 8 {
		_, before := lastByHand(log[:have])
		n := followingNode(1, 3, 5, 2, log[:have], have/2)
		wantHandled(t, fmt.Sprint("behind ", have), n, appendMsg(2, 1, 5, have, before, 0, log[have:]...), followingNode(1, 3, 5, 2, log, have/2), toldMsg(1, 2, 5, 7, true))
		// From the front, with what is there ahead of what goes on.
		wantHandled(t, fmt.Sprint("over ", have), n, appendMsg(2, 1, 5, 0, 0, 0, log...), followingNode(1, 3, 5, 2, log, have/2), toldMsg(1, 2, 5, 7, true))
	}
}

// Entries that differ at each place: the log is cut there, but never below Commit.
func TestAppendThatDiffers(t *testing.T) {
	log := logOf(1, 1, 2, 2, 3)
	for at := range 5 {
		entries := append(slices.Clone(log[:at]), entriesOf(5-at, 6, 3)...)
		for commit := range 6 {
			for from := 0; from <= at; from++ {
				for end := at + 1; end <= 5; end++ {
					n := followingNode(1, 3, 6, 0, log, commit)
					_, before := lastByHand(log[:from])
					m := appendMsg(0, 1, 6, from, before, 60, entries[from:end]...)
					what := fmt.Sprintf("differs at %d, %d to %d, Commit %d", at+1, from+1, end, commit)
					if at < commit {
						wantNotHandled(t, what, n, m)
						continue
					}
					wantHandled(t, what, n, m, followingNode(1, 3, 6, 0, entries[:end], max(commit, end)), toldMsg(1, 0, 6, end, true))
				}
			}
		}
	}
}

// A lesser term behind a log is what the node may not have: it is not good then.
func TestAppendThatFalls(t *testing.T) {
	n := followingNode(1, 3, 6, -1, logOf(2, 4, 5), 1)
	wantNotHandled(t, "falls behind the log", n, appendMsg(0, 1, 6, 3, 5, 0, logOf(4)...))
	wantNotHandled(t, "falls in the middle", n, appendMsg(0, 1, 6, 2, 4, 0, logOf(3)...))
	wantNotHandled(t, "falls, in a greater term", n, appendMsg(0, 1, 7, 2, 4, 0, logOf(3, 7)...))
	wantHandled(t, "does not fall", n, appendMsg(0, 1, 6, 2, 4, 0, logOf(4)...), followingNode(1, 3, 6, -1, logWith(logOf(2, 4), 4, "1 of 4"), 1), toldMsg(1, 0, 6, 3, true))
}

// A message's Commit below, between and above.
func TestCommitOfAnAppend(t *testing.T) {
	log := logOf(1, 2, 2, 4, 5, 5)
	for own := range 7 {
		for commit := 0; commit <= 60; commit++ {
			if commit > 8 && commit < 59 {
				continue
			}
			n := followingNode(1, 3, 5, 0, log, own)
			what := fmt.Sprint("Commit ", own, " told ", commit)
			wantHandled(t, what+", none", n, appendMsg(0, 1, 5, 4, 4, commit), followingNode(1, 3, 5, 0, log, max(own, min(commit, 4))), toldMsg(1, 0, 5, 4, true))
			wantHandled(t, what+", one", n, appendMsg(0, 1, 5, 4, 4, commit, log[4]), followingNode(1, 3, 5, 0, log, max(own, min(commit, 5))), toldMsg(1, 0, 5, 5, true))
			wantHandled(t, what+", three", n, appendMsg(0, 1, 5, 4, 4, commit, logWith(log[4:], 5, "x")...), followingNode(1, 3, 5, 0, logWith(log, 5, "x"), max(own, min(commit, 7))), toldMsg(1, 0, 5, 7, true))
			// Where it does not match, Commit stays.
			wantHandled(t, what+", no match", n, appendMsg(0, 1, 5, 4, 5, commit), n, toldMsg(1, 0, 5, 3, false))
		}
	}
}

func TestAppendAtTheEndOfAFullLog(t *testing.T) {
	full := entriesOf(60, 5, 2)
	n := followingNode(1, 3, 5, 0, full, 30)
	wantHandled(t, "full", n, appendMsg(0, 1, 5, 60, 5, 60), followingNode(1, 3, 5, 0, full, 60), toldMsg(1, 0, 5, 60, true))
	n = followingNode(1, 3, 5, 0, full[:59], 30)
	wantHandled(t, "the last entry", n, appendMsg(0, 1, 5, 59, 5, 60, full[59]), followingNode(1, 3, 5, 0, full, 60), toldMsg(1, 0, 5, 60, true))
	wantHandled(t, "beyond by one", n, appendMsg(0, 1, 5, 60, 5, 60), n, toldMsg(1, 0, 5, 59, false))
	wantNotHandled(t, "more than full", followingNode(1, 3, 5, 0, full, 30), appendMsg(0, 1, 5, 60, 5, 60, full[59]))
}

// A RaftTold.

func TestToldOfAnotherTerm(t *testing.T) {
	log := logOf(1, 3, 5)
	for name, n := range map[string]impl.RaftNode{
		"follows": followingNode(1, 3, 5, 2, log, 1),
		"asks":    askingNode(1, 3, 5, log, 1, 1),
		"leads":   leadingNode(1, 3, 5, log, 1, 2, 3, 0),
	} {
		for _, yes := range []bool{false, true} {
			for _, index := range []int{0, 1, 3, 60} {
				for _, term := range []int{1, 4} {
					wantHandled(t, name+", lesser", n, toldMsg(0, 1, term, index, yes), n)
				}
				for _, term := range []int{6, 1000} {
					wantHandled(t, name+", greater", n, toldMsg(0, 1, term, index, yes), followingNode(1, 3, term, -1, log, 1))
				}
			}
		}
	}
}

func TestToldToOneThatDoesNotLead(t *testing.T) {
	log := logOf(1, 3, 5)
	for _, n := range []impl.RaftNode{followingNode(1, 3, 5, -1, log, 1), followingNode(1, 3, 5, 1, log, 1), askingNode(1, 3, 5, log, 1, 1)} {
		for _, yes := range []bool{false, true} {
			for _, index := range []int{0, 1, 3, 4, 60} {
				wantHandled(t, "does not lead", n, toldMsg(0, 1, 5, index, yes), n)
			}
		}
	}
}

// Match goes up where it is told Yes, down where it is not; of the others nothing changes.
func TestToldMatches(t *testing.T) {
	log := logOf(1, 2, 2, 3)
	for match := range 5 {
		n := leadingNode(2, 5, 5, log, 1, match, 1, 4, 0, 1)
		for index := range 5 {
			what := fmt.Sprintf("Match %d told %d", match, index)
			wantHandled(t, what+", Yes", n, toldMsg(0, 2, 5, index, true), leadingNode(2, 5, 5, log, 1, max(match, index), 1, 4, 0, 1))
			wantHandled(t, what+", not Yes", n, toldMsg(0, 2, 5, index, false), leadingNode(2, 5, 5, log, 1, min(match, index), 1, 4, 0, 1))
		}
		for _, index := range []int{5, 6, 59, 60} {
			wantNotHandled(t, fmt.Sprint("beyond the log, ", index), n, toldMsg(0, 2, 5, index, true))
			wantHandled(t, fmt.Sprint("beyond the log, not Yes, ", index), n, toldMsg(0, 2, 5, index, false), n)
		}
	}
	full := entriesOf(60, 2, 1)
	n := leadingNode(0, 3, 5, full, 1, 60, 0, 0)
	wantHandled(t, "the end of a full log", n, toldMsg(1, 0, 5, 60, true), leadingNode(0, 3, 5, full, 1, 60, 60, 0))
	wantNotHandled(t, "of an empty log", leadingNode(0, 3, 5, nil, 0, 0, 0, 0), toldMsg(1, 0, 5, 1, true))
}

// Commit goes on with more than half of the peers, not with half.
func TestToldLetsCommitGoOn(t *testing.T) {
	log := logOf(1, 5, 5, 5)
	wantHandled(t, "two of three", leadingNode(0, 3, 5, log, 0, 4, 0, 0), toldMsg(1, 0, 5, 3, true), leadingNode(0, 3, 5, log, 3, 4, 3, 0))
	wantHandled(t, "three of three", leadingNode(0, 3, 5, log, 3, 4, 3, 0), toldMsg(2, 0, 5, 4, true), leadingNode(0, 3, 5, log, 4, 4, 3, 4))
	wantHandled(t, "two of two", leadingNode(1, 2, 5, log, 0, 0, 4), toldMsg(0, 1, 5, 2, true), leadingNode(1, 2, 5, log, 2, 2, 4))
	wantHandled(t, "two of four", leadingNode(0, 4, 5, log, 0, 4, 0, 0, 0), toldMsg(1, 0, 5, 4, true), leadingNode(0, 4, 5, log, 0, 4, 4, 0, 0))
	wantHandled(t, "three of four", leadingNode(0, 4, 5, log, 0, 4, 4, 0, 0), toldMsg(2, 0, 5, 2, true), leadingNode(0, 4, 5, log, 2, 4, 4, 2, 0))
	wantHandled(t, "two of five", leadingNode(0, 5, 5, log, 0, 4, 0, 0, 0, 0), toldMsg(4, 0, 5, 4, true), leadingNode(0, 5, 5, log, 0, 4, 0, 0, 0, 4))
	wantHandled(t, "three of five", leadingNode(0, 5, 5, log, 0, 4, 0, 0, 0, 4), toldMsg(2, 0, 5, 3, true), leadingNode(0, 5, 5, log, 3, 4, 0, 3, 0, 4))
	wantHandled(t, "three of six", leadingNode(0, 6, 5, log, 0, 4, 4, 0, 0, 0, 0), toldMsg(5, 0, 5, 4, true), leadingNode(0, 6, 5, log, 0, 4, 4, 0, 0, 0, 4))
	wantHandled(t, "four of seven", leadingNode(0, 7, 5, log, 0, 4, 4, 0, 0, 0, 3, 0), toldMsg(6, 0, 5, 2, true), leadingNode(0, 7, 5, log, 2, 4, 4, 0, 0, 0, 3, 2))
	wantHandled(t, "three of seven", leadingNode(0, 7, 5, log, 0, 4, 4, 0, 0, 0, 0, 0), toldMsg(6, 0, 5, 4, true), leadingNode(0, 7, 5, log, 0, 4, 4, 0, 0, 0, 0, 4))
}

// An entry of an earlier Term, which all may have, is committed only together with one of the Term.
func TestToldCommitsWhatIsOfItsOwnTerm(t *testing.T) {
	log := logOf(1, 2, 2, 5, 5)
	for index := 1; index <= 3; index++ {
		n := leadingNode(0, 3, 5, log, 0, 5, 0, index)
		wantHandled(t, "of an earlier term", n, toldMsg(1, 0, 5, index, true), leadingNode(0, 3, 5, log, 0, 5, index, index))
	}
	for index := 4; index <= 5; index++ {
		n := leadingNode(0, 3, 5, log, 0, 5, 0, 0)
		wantHandled(t, "of its own", n, toldMsg(1, 0, 5, index, true), leadingNode(0, 3, 5, log, index, 5, index, 0))
	}
	old := logOf(1, 2, 2)
	wantHandled(t, "all have all, of earlier terms", leadingNode(0, 3, 5, old, 1, 3, 0, 3), toldMsg(1, 0, 5, 3, true), leadingNode(0, 3, 5, old, 1, 3, 3, 3))
}

// Commit stays where Match falls below it, and goes on from there.
func TestToldNotYesLeavesCommit(t *testing.T) {
	log := logOf(1, 5, 5, 5)
	n := leadingNode(0, 3, 5, log, 3, 4, 3, 3)
	wantHandled(t, "one falls", n, toldMsg(1, 0, 5, 0, false), leadingNode(0, 3, 5, log, 3, 4, 0, 3))
	n = leadingNode(0, 3, 5, log, 3, 4, 0, 3)
	wantHandled(t, "both fall", n, toldMsg(2, 0, 5, 1, false), leadingNode(0, 3, 5, log, 3, 4, 0, 1))
	n = leadingNode(0, 3, 5, log, 3, 4, 0, 1)
	wantHandled(t, "one comes back", n, toldMsg(1, 0, 5, 3, true), leadingNode(0, 3, 5, log, 3, 4, 3, 1))
	wantHandled(t, "one has all", n, toldMsg(1, 0, 5, 4, true), leadingNode(0, 3, 5, log, 4, 4, 4, 1))
}

// Whatever was handled: one that leads then commits what may be.
func TestCommitBehindEveryMessage(t *testing.T) {
	log := logOf(1, 5, 5, 5)
	n := leadingNode(0, 3, 5, log, 0, 4, 3, 1)
	on := leadingNode(0, 3, 5, log, 3, 4, 3, 1)
	wantHandled(t, "RaftAsk", n, askMsg(1, 0, 5, 9, 9), on, voteMsg(0, 1, 5, false))
	wantHandled(t, "RaftAsk of a lesser term", n, askMsg(1, 0, 4, 9, 9), on, voteMsg(0, 1, 5, false))
	wantHandled(t, "RaftVote", n, voteMsg(1, 0, 5, true), on)
	wantHandled(t, "RaftAppend of a lesser term", n, appendMsg(1, 0, 4, 0, 0, 0), on, toldMsg(0, 1, 5, 0, false))
	wantHandled(t, "RaftTold of a lesser term", n, toldMsg(1, 0, 4, 0, false), on)
	wantHandled(t, "RaftTold, not Yes, of who is ahead", n, toldMsg(1, 0, 5, 2, false), leadingNode(0, 3, 5, log, 2, 4, 2, 1))
	wantHandled(t, "RaftAsk of a greater term", n, askMsg(1, 0, 6, 0, 0), followingNode(0, 3, 6, -1, log, 0), voteMsg(0, 1, 6, false))
}

func TestMessagesToAnother(t *testing.T) {
	for name, n := range manyNodes() {
		for to := range n.Peers {
			for from := range n.Peers {
				if from == to || to == n.Id {
					continue
				}
				for _, term := range []int{1, max(n.Term, 1), min(n.Term+1, 1000)} {
					for _, m := range []impl.RaftMsg{askMsg(from, to, term, 3, 1), voteMsg(from, to, term, true), appendMsg(from, to, term, 0, 0, 0), toldMsg(from, to, term, 0, true)} {
						wantNotHandled(t, name+", to another", n, m)
					}
				}
			}
		}
	}
}
