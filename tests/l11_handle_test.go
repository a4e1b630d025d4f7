package tests

import (
	"testing"

	"loop.example/g00224/impl"
)

// msgsTo are messages of all kinds to a node, about what it has.
func msgsTo(n impl.RaftNode) []impl.RaftMsg {
	var l []impl.RaftMsg
	for from := range n.Peers {
		if from == n.Id || from > 1 && from < n.Peers-1 {
			continue
		}
		for _, term := range []int{1, n.Term - 1, n.Term, n.Term + 1, 1000} {
			if isWithin(term, 1, 1000) {
				l = append(l, msgsFrom(n, from, term)...)
			}
		}
	}
	return l
}

func msgsFrom(n impl.RaftNode, from int, term int) []impl.RaftMsg {
	l := []impl.RaftMsg{voteMsg(from, n.Id, term, false), voteMsg(from, n.Id, term, true)}
	lastIndex, lastTerm := lastByHand(n.Log)
	indexes := []int{0, 1, n.Commit - 1, n.Commit, n.Commit + 1, lastIndex - 1, lastIndex, lastIndex + 1, 60}
	for _, index := range indexes {
		if !isWithin(index, 0, 60) {
			continue
		}
		l = append(l, toldMsg(from, n.Id, term, index, false), toldMsg(from, n.Id, term, index, true))
		for _, before := range []int{0, lastTerm - 1, lastTerm, lastTerm + 1} {
			if isWithin(before, 0, 1000) {
				l = append(l, askMsg(from, n.Id, term, index, before))
			}
		}
		before := 0
		if index > 0 && index <= lastIndex {
			before = n.Log[index-1].Term
		}
		for _, commit := range []int{0, n.Commit, lastIndex, 60} {
			for _, entries := range entriesBehind(n, index, term) {
				l = append(l, appendMsg(from, n.Id, term, index, before, commit, entries...))
			}
			l = append(l, appendMsg(from, n.Id, term, index, min(before+1, 1000), commit))
		}
	}
	return l
}

// entriesBehind are what may be sent behind an index: nothing, what is there, more than that, and what differs at several places. Not all of it makes a good message.
func entriesBehind(n impl.RaftNode, index int, term int) [][]impl.Entry {
	var own []impl.Entry
	if index < len(n.Log) {
		own = n.Log[index:min(index+4, len(n.Log))]
	}
	l := [][]impl.Entry{nil, own, logWith(own, term, "new"), logOf(1, 1), logOf(term)}
	for at := range own {
		l = append(l, own[:at], logWith(own[:at], term, "other"), logWith(logWith(own[:at], term, "other"), term, "behind"))
	}
	return l
}

func TestManyMessagesToManyNodes(t *testing.T) {
	handled, refused := 0, 0
	for name, n := range manyNodes() {
		for _, m := range msgsTo(n) {
			if _, _, ok := checkHandled(t, name, n, m); ok {
				handled++
			} else {
				refused++
			}
		}
	}
	if handled < 20000 || refused < 500 {
		t.Errorf("%d messages were handled, %d were not: too few", handled, refused)
	}
}

// smallLogs are all logs of at most so many entries with terms up to one.
func smallLogs(many int, term int) [][]impl.Entry {
	l := [][]impl.Entry{nil}
	for from := 0; many > 0; many-- {
		end := len(l)
		for _, ahead := range l[from:end] {
			_, least := lastByHand(ahead)
			for next := max(least, 1); next <= term; next++ {
				l = append(l, logWith(ahead, next, "small"))
			}
		}
		from = end
	}
	return l
}

// smallNodes are all good nodes 0 of 3 with a Term of at most 2 and at most two entries.
func smallNodes() []impl.RaftNode {
	var l []impl.RaftNode
	for term := range 3 {
		for _, log := range smallLogs(2, term) {
			for commit := range len(log) + 1 {
				for vote := -1; vote < 3; vote++ {
					l = append(l, followingNode(0, 3, term, vote, log, commit))
				}
				if term == 0 {
					continue
				}
				l = append(l, askingNode(0, 3, term, log, commit, 0))
				for first := range len(log) + 1 {
					for second := range len(log) + 1 {
						l = append(l, leadingNode(0, 3, term, log, commit, len(log), first, second))
					}
				}
			}
		}
	}
	return l
}

// smallMsgs are all messages to node 0 of 3 with small numbers.
func smallMsgs() []impl.RaftMsg {
	var l []impl.RaftMsg
	for from := 1; from < 3; from++ {
		for term := 1; term <= 3; term++ {
			l = append(l, voteMsg(from, 0, term, false), voteMsg(from, 0, term, true))
			for index := range 4 {
				l = append(l, toldMsg(from, 0, term, index, false), toldMsg(from, 0, term, index, true))
				for before := range 4 {
					l = append(l, askMsg(from, 0, term, index, before))
					for _, entries := range smallLogs(2, term) {
						for commit := range 4 {
							l = append(l, appendMsg(from, 0, term, index, before, commit, entries...))
						}
					}
				}
			}
		}
	}
	return l
}

// Every small message to every small node.
func TestAllSmallMessages(t *testing.T) {
	nodes, msgs := smallNodes(), smallMsgs()
	if len(nodes) < 150 || len(msgs) < 2000 {
		t.Fatalf("%d nodes, %d messages: too few", len(nodes), len(msgs))
	}
	for _, n := range nodes {
		checkGoodNode(t, "small", n, true)
		checkTimeout(t, "small", n)
		checkPropose(t, "small", n, "small")
		checkCrashNode(t, "small", n)
		checkCommitted(t, "small", n)
		for peer := -1; peer < 4; peer++ {
			for many := range 4 {
				checkAppend(t, "small", n, peer, many)
			}
		}
		for _, m := range msgs {
			checkHandled(t, "small", n, m)
		}
	}
}
