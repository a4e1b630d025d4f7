package tests

import (
	"fmt"
	"slices"
	"testing"

	"loop.example/g00224/impl"
)

// logOf makes a log of entries with these terms, no two alike.
func logOf(terms ...int) []impl.Entry {
	var l []impl.Entry
	for i, term := range terms {
		l = append(l, impl.Entry{Term: term, Data: fmt.Sprintf("%d of %d", i+1, term)})
	}
	return l
}

func followingNode(id int, peers int, term int, vote int, log []impl.Entry, commit int) impl.RaftNode {
	return impl.RaftNode{Id: id, Peers: peers, Term: term, Vote: vote, Log: log, Commit: commit, Role: impl.RoleFollows}
}

func askingNode(id int, peers int, term int, log []impl.Entry, commit int, votes ...int) impl.RaftNode {
	return impl.RaftNode{Id: id, Peers: peers, Term: term, Vote: id, Log: log, Commit: commit, Role: impl.RoleAsks, Votes: votes}
}

func leadingNode(id int, peers int, term int, log []impl.Entry, commit int, match ...int) impl.RaftNode {
	return impl.RaftNode{Id: id, Peers: peers, Term: term, Vote: id, Log: log, Commit: commit, Role: impl.RoleLeads, Match: match}
}

func askMsg(from int, to int, term int, index int, before int) impl.RaftMsg {
	return impl.RaftMsg{Kind: impl.RaftAsk, From: from, To: to, Term: term, Index: index, Before: before}
}

func voteMsg(from int, to int, term int, yes bool) impl.RaftMsg {
	return impl.RaftMsg{Kind: impl.RaftVote, From: from, To: to, Term: term, Yes: yes}
}

func appendMsg(from int, to int, term int, index int, before int, commit int, entries ...impl.Entry) impl.RaftMsg {
	return impl.RaftMsg{Kind: impl.RaftAppend, From: from, To: to, Term: term, Index: index, Before: before, Entries: entries, Commit: commit}
}

func toldMsg(from int, to int, term int, index int, yes bool) impl.RaftMsg {
	return impl.RaftMsg{Kind: impl.RaftTold, From: from, To: to, Term: term, Index: index, Yes: yes}
}

func sameNode(a impl.RaftNode, b impl.RaftNode) bool {
	return a.Id == b.Id && a.Peers == b.Peers && a.Term == b.Term && a.Vote == b.Vote && a.Commit == b.Commit && a.Role == b.Role &&
		slices.Equal(a.Log, b.Log) && slices.Equal(a.Votes, b.Votes) && slices.Equal(a.Match, b.Match)
}

func sameMsg(a impl.RaftMsg, b impl.RaftMsg) bool {
	return a.Kind == b.Kind && a.From == b.From && a.To == b.To && a.Term == b.Term && a.Index == b.Index && a.Before == b.Before &&
		a.Commit == b.Commit && a.Yes == b.Yes && slices.Equal(a.Entries, b.Entries)
}

func sameMsgs(a []impl.RaftMsg, b []impl.RaftMsg) bool {
	return slices.EqualFunc(a, b, sameMsg)
}

func copiedNode(n impl.RaftNode) impl.RaftNode {
	n.Log, n.Votes, n.Match = slices.Clone(n.Log), slices.Clone(n.Votes), slices.Clone(n.Match)
	return n
}

// changedNode is a node with one thing changed.
func changedNode(n impl.RaftNode, change func(n *impl.RaftNode)) impl.RaftNode {
	n = copiedNode(n)
	change(&n)
	return n
}

// What follows does by the document's words, without the program's functions, what a node does.

func isWithin(x int, least int, most int) bool {
	return least <= x && x <= most
}

// areMostByHand tells whether so many are more than those that are left.
func areMostByHand(many int, peers int) bool {
	return many > peers-many
}

func areEntriesByHand(l []impl.Entry, term int) bool {
	for i, e := range l {
		if !isWithin(e.Term, 1, term) || len(e.Data) > 100 || i > 0 && l[i-1].Term > e.Term {
			return false
		}
	}
	return true
}

func areVotesByHand(n impl.RaftNode) bool {
	own := false
	for i, from := range n.Votes {
		if !isWithin(from, 0, n.Peers-1) || slices.Contains(n.Votes[:i], from) {
			return false
		}
		own = own || from == n.Id
	}
	return own && slices.IsSorted(n.Votes) && !areMostByHand(len(n.Votes), n.Peers)
}

func isMatchByHand(n impl.RaftNode) bool {
	for id, index := range n.Match {
		if !isWithin(index, 0, len(n.Log)) || id == n.Id && index != len(n.Log) {
			return false
		}
	}
	return len(n.Match) == n.Peers
}

func isNodeByHand(n impl.RaftNode) bool {
	if !isWithin(n.Peers, 1, 7) || !isWithin(n.Id, 0, n.Peers-1) || !isWithin(n.Term, 0, 1000) || !isWithin(n.Vote, -1, n.Peers-1) {
		return false
	}
	if len(n.Log) > 60 || !areEntriesByHand(n.Log, n.Term) || !isWithin(n.Commit, 0, len(n.Log)) || !isWithin(n.Role, 0, 2) {
		return false
	}
	if n.Role != impl.RoleFollows && (n.Vote != n.Id || n.Term == 0) {
		return false
	}
	votes, match := len(n.Votes) == 0, len(n.Match) == 0
	if n.Role == impl.RoleAsks {
		votes = areVotesByHand(n)
	}
	if n.Role == impl.RoleLeads {
		match = isMatchByHand(n)
	}
	return votes && match
}

// isMsgByHand clears what the kind has; the rest must be zero.
func isMsgByHand(m impl.RaftMsg, peers int) bool {
	if !isWithin(peers, 1, 7) || !isWithin(m.From, 0, peers-1) || !isWithin(m.To, 0, peers-1) || m.From == m.To || !isWithin(m.Term, 1, 1000) {
		return false
	}
	index, before := isWithin(m.Index, 0, 60), isWithin(m.Before, 0, 1000)
	rest := m
	rest.Kind, rest.From, rest.To, rest.Term = 0, 0, 0, 0
	good := false
	switch m.Kind {
	case 1:
		good = index && before
		rest.Index, rest.Before = 0, 0
	case 2:
		good = true
		rest.Yes = false
	case 3:
		good = index && before && areEntriesByHand(m.Entries, m.Term) && m.Index+len(m.Entries) <= 60 && isWithin(m.Commit, 0, 60)
		rest.Index, rest.Before, rest.Entries, rest.Commit = 0, 0, nil, 0
	case 4:
		good = index
		rest.Index, rest.Yes = 0, false
	}
	return good && sameMsg(rest, impl.RaftMsg{})
}

func lastByHand(l []impl.Entry) (int, int) {
	if len(l) == 0 {
		return 0, 0
	}
	return len(l), l[len(l)-1].Term
}

func followsByHand(n impl.RaftNode) impl.RaftNode {
	n.Role, n.Votes, n.Match = impl.RoleFollows, nil, nil
	return n
}

func leadsByHand(n impl.RaftNode) impl.RaftNode {
	n.Role, n.Votes, n.Match = impl.RoleLeads, nil, nil
	for id := range n.Peers {
		own := 0
		if id == n.Id {
			own = len(n.Log)
		}
		n.Match = append(n.Match, own)
	}
	return n
}

func isUpToDateByHand(n impl.RaftNode, index int, term int) bool {
	lastIndex, lastTerm := lastByHand(n.Log)
	if term == lastTerm {
		return index >= lastIndex
	}
	return term > lastTerm
}

func upToDateByHand(n impl.RaftNode, index int, term int) (bool, bool) {
	if !isNodeByHand(n) || index < 0 || term < 0 {
		return false, false
	}
	return isUpToDateByHand(n, index, term), true
}

// commitByHand goes up from Commit; the last index that will do is the greatest.
func commitByHand(n impl.RaftNode) int {
	commit := n.Commit
	for index := n.Commit + 1; index <= len(n.Log); index++ {
		many := 0
		for _, at := range n.Match {
			if at >= index {
				many++
			}
		}
		if areMostByHand(many, n.Peers) && n.Log[index-1].Term == n.Term {
			commit = index
		}
	}
	return commit
}

func timeoutByHand(n impl.RaftNode) (impl.RaftNode, []impl.RaftMsg, bool) {
	if !isNodeByHand(n) || n.Role == impl.RoleLeads || n.Term >= 1000 {
		return impl.RaftNode{}, nil, false
	}
	next := askingNode(n.Id, n.Peers, n.Term+1, slices.Clone(n.Log), n.Commit, n.Id)
	if n.Peers == 1 {
		return leadsByHand(next), nil, true
	}
	var l []impl.RaftMsg
	index, term := lastByHand(n.Log)
	for id := range n.Peers {
		if id != n.Id {
			l = append(l, askMsg(n.Id, id, n.Term+1, index, term))
		}
	}
	return next, l, true
}

func appendByHand(n impl.RaftNode, peer int, many int) (impl.RaftMsg, bool) {
	if !isNodeByHand(n) || n.Role != impl.RoleLeads || !isWithin(peer, 0, n.Peers-1) || peer == n.Id || !isWithin(many, 0, 60) {
		return impl.RaftMsg{}, false
	}
	index, before := lastByHand(n.Log[:n.Match[peer]])
	m := appendMsg(n.Id, peer, n.Term, index, before, n.Commit)
	for i := index; i < len(n.Log) && i < index+many; i++ {
		m.Entries = append(m.Entries, n.Log[i])
	}
	return m, true
}

func proposeByHand(n impl.RaftNode, data string) (impl.RaftNode, int, bool) {
	if !isNodeByHand(n) || n.Role != impl.RoleLeads || len(n.Log) == 60 || len(data) > 100 {
		return impl.RaftNode{}, 0, false
	}
	n = copiedNode(n)
	n.Log = append(n.Log, impl.Entry{Term: n.Term, Data: data})
	n.Match[n.Id]++
	n.Commit = commitByHand(n)
	return n, len(n.Log), true
}

func crashByHand(n impl.RaftNode) (impl.RaftNode, bool) {
	if !isNodeByHand(n) {
		return impl.RaftNode{}, false
	}
	return followingNode(n.Id, n.Peers, n.Term, n.Vote, slices.Clone(n.Log), 0), true
}

func handleByHand(n impl.RaftNode, m impl.RaftMsg) (impl.RaftNode, []impl.RaftMsg, bool) {
	if !isNodeByHand(n) || !isMsgByHand(m, n.Peers) || m.To != n.Id {
		return impl.RaftNode{}, nil, false
	}
	n = copiedNode(n)
	if m.Term > n.Term {
		n = followsByHand(n)
		n.Term, n.Vote = m.Term, -1
	}
	var l []impl.RaftMsg
	ok := true
	switch m.Kind {
	case impl.RaftAsk:
		yes := m.Term == n.Term && (n.Vote == -1 || n.Vote == m.From) && isUpToDateByHand(n, m.Index, m.Before)
		if yes {
			n.Vote = m.From
		}
		l = append(l, voteMsg(n.Id, m.From, n.Term, yes))
	case impl.RaftVote:
		n = voteByHand(n, m)
	case impl.RaftAppend:
		var told impl.RaftMsg
		n, told, ok = entriesByHand(n, m)
		l = append(l, told)
	case impl.RaftTold:
		n, ok = matchByHand(n, m)
	}
	if n.Role == impl.RoleLeads {
		n.Commit = commitByHand(n)
	}
	if !ok || !isNodeByHand(n) {
		return impl.RaftNode{}, nil, false
	}
	return n, l, true
}

func voteByHand(n impl.RaftNode, m impl.RaftMsg) impl.RaftNode {
	if m.Term != n.Term || !m.Yes || n.Role != impl.RoleAsks || slices.Contains(n.Votes, m.From) {
		return n
	}
	n.Votes = append(n.Votes, m.From)
	slices.Sort(n.Votes)
	if areMostByHand(len(n.Votes), n.Peers) {
		return leadsByHand(n)
	}
	return n
}

func entriesByHand(n impl.RaftNode, m impl.RaftMsg) (impl.RaftNode, impl.RaftMsg, bool) {
	if m.Term < n.Term {
		return n, toldMsg(n.Id, m.From, n.Term, 0, false), true
	}
	n = followsByHand(n)
	there := m.Index <= len(n.Log)
	if there {
		_, term := lastByHand(n.Log[:m.Index])
		there = term == m.Before
	}
	if !there {
		index := min(len(n.Log), m.Index-1)
		if index < 0 {
			index = 0
		}
		return n, toldMsg(n.Id, m.From, n.Term, index, false), true
	}
	end := m.Index + len(m.Entries)
	alike := 0
	for alike < len(m.Entries) && m.Index+alike < len(n.Log) && n.Log[m.Index+alike].Term == m.Entries[alike].Term {
		alike++
	}
	if alike < len(m.Entries) {
		if m.Index+alike < n.Commit {
			return n, impl.RaftMsg{}, false
		}
		log := slices.Clone(n.Log[:m.Index+alike])
		n.Log = append(log, m.Entries[alike:]...)
	}
	n.Commit = max(n.Commit, min(m.Commit, end))
	return n, toldMsg(n.Id, m.From, n.Term, end, true), true
}

func matchByHand(n impl.RaftNode, m impl.RaftMsg) (impl.RaftNode, bool) {
	if m.Term != n.Term || n.Role != impl.RoleLeads {
		return n, true
	}
	at := n.Match[m.From]
	if m.Yes && m.Index > at {
		at = m.Index
	}
	if !m.Yes && m.Index < at {
		at = m.Index
	}
	n.Match[m.From] = at
	return n, at <= len(n.Log)
}

// What follows asks the program.

func wantNode(t *testing.T, what string, got impl.RaftNode, ok bool, want impl.RaftNode) {
	t.Helper()
	if !ok || !sameNode(got, want) {
		t.Errorf("%s: %s %v, want %s", what, shown(got), ok, shown(want))
	}
	if ok && !impl.GoodNode(got) {
		t.Errorf("%s: the node is not good: %s", what, shown(got))
	}
	wantNothingBehindNode(t, what, got)
}

func wantNoNode(t *testing.T, what string, got impl.RaftNode, ok bool) {
	t.Helper()
	if ok || !sameNode(got, impl.RaftNode{}) {
		t.Errorf("%s: %s %v, want nothing", what, shown(got), ok)
	}
}

func wantNothingBehindNode(t *testing.T, what string, n impl.RaftNode) {
	t.Helper()
	wantNothingBehind(t, what, n.Log)
	wantNothingBehind(t, what, n.Votes)
	wantNothingBehind(t, what, n.Match)
}

// wantMsgs asks for messages as an answer: just these, each of them good.
func wantMsgs(t *testing.T, what string, got []impl.RaftMsg, peers int, want ...impl.RaftMsg) {
	t.Helper()
	if !sameMsgs(got, want) {
		t.Errorf("%s: the messages are %s, want %s", what, shown(got), shown(want))
	}
	for _, m := range got {
		if !impl.GoodRaftMsg(m, peers) {
			t.Errorf("%s: a message is not good: %s", what, shown(m))
		}
		wantNothingBehind(t, what, m.Entries)
	}
	for _, m := range whole(got)[len(got):] {
		if !sameMsg(m, impl.RaftMsg{}) {
			t.Errorf("%s: behind the messages lies %s", what, shown(m))
		}
	}
}

func checkGoodNode(t *testing.T, what string, n impl.RaftNode, good bool) {
	t.Helper()
	if isNodeByHand(n) != good {
		t.Errorf("%s: the test itself is wrong: %s", what, shown(n))
	}
	if impl.GoodNode(n) != good {
		t.Errorf("%s: GoodNode of %s: %v", what, shown(n), !good)
	}
}

func checkGoodMsg(t *testing.T, what string, m impl.RaftMsg, peers int, good bool) {
	t.Helper()
	if isMsgByHand(m, peers) != good {
		t.Errorf("%s: the test itself is wrong: %s for %d", what, shown(m), peers)
	}
	if impl.GoodRaftMsg(m, peers) != good {
		t.Errorf("%s: GoodRaftMsg of %s for %d: %v", what, shown(m), peers, !good)
	}
}

// wantHandled asks for what a message makes of a node, and what it is answered by.
func wantHandled(t *testing.T, what string, n impl.RaftNode, m impl.RaftMsg, want impl.RaftNode, answers ...impl.RaftMsg) {
	t.Helper()
	got, l, ok := impl.HandleMsg(n, m)
	wantNode(t, what, got, ok, want)
	wantMsgs(t, what, l, n.Peers, answers...)
	checkHandled(t, what, n, m)
}

func wantNotHandled(t *testing.T, what string, n impl.RaftNode, m impl.RaftMsg) {
	t.Helper()
	got, l, ok := impl.HandleMsg(n, m)
	wantNoNode(t, what, got, ok)
	wantMsgs(t, what, l, n.Peers)
	checkHandled(t, what, n, m)
}

// checkHandled holds HandleMsg against the document's words and promise 11; it answers the node, as it was where HandleMsg tells false.
func checkHandled(t *testing.T, what string, n impl.RaftNode, m impl.RaftMsg) (impl.RaftNode, []impl.RaftMsg, bool) {
	t.Helper()
	want, answers, is := handleByHand(n, m)
	got, l, ok := impl.HandleMsg(n, m)
	if !is {
		wantNoNode(t, what+": HandleMsg", got, ok)
		wantMsgs(t, what+": HandleMsg", l, n.Peers)
		return n, nil, false
	}
	wantNode(t, what+": HandleMsg", got, ok, want)
	wantMsgs(t, what+": HandleMsg", l, n.Peers, answers...)
	wantKept(t, what+": HandleMsg", n, got)
	return got, l, ok
}

func checkTimeout(t *testing.T, what string, n impl.RaftNode) (impl.RaftNode, []impl.RaftMsg, bool) {
	t.Helper()
	want, asks, is := timeoutByHand(n)
	got, l, ok := impl.TimeoutNode(n)
	if !is {
		wantNoNode(t, what+": TimeoutNode", got, ok)
		wantMsgs(t, what+": TimeoutNode", l, n.Peers)
		return n, nil, false
	}
	wantNode(t, what+": TimeoutNode", got, ok, want)
	wantMsgs(t, what+": TimeoutNode", l, n.Peers, asks...)
	wantKept(t, what+": TimeoutNode", n, got)
	return got, l, ok
}

func checkPropose(t *testing.T, what string, n impl.RaftNode, data string) (impl.RaftNode, bool) {
	t.Helper()
	want, at, is := proposeByHand(n, data)
	got, index, ok := impl.ProposeNode(n, data)
	if index != at {
		t.Errorf("%s: ProposeNode: the index is %d, want %d", what, index, at)
	}
	if !is {
		wantNoNode(t, what+": ProposeNode", got, ok)
		return n, false
	}
	wantNode(t, what+": ProposeNode", got, ok, want)
	wantKept(t, what+": ProposeNode", n, got)
	return got, ok
}

func checkAppend(t *testing.T, what string, n impl.RaftNode, peer int, many int) (impl.RaftMsg, bool) {
	t.Helper()
	want, is := appendByHand(n, peer, many)
	got, ok := impl.AppendFor(n, peer, many)
	if ok != is || !sameMsg(got, want) {
		t.Errorf("%s: AppendFor %d, %d of %s: %s %v, want %s %v", what, peer, many, shown(n), shown(got), ok, shown(want), is)
	}
	if ok && !impl.GoodRaftMsg(got, n.Peers) {
		t.Errorf("%s: AppendFor: the message is not good: %s", what, shown(got))
	}
	wantNothingBehind(t, what+": AppendFor", got.Entries)
	return got, ok
}

// checkCrashNode asks for what a node has on its disk, and for nothing else.
func checkCrashNode(t *testing.T, what string, n impl.RaftNode) (impl.RaftNode, bool) {
	t.Helper()
	want, is := crashByHand(n)
	got, ok := impl.CrashNode(n)
	if !is {
		wantNoNode(t, what+": CrashNode", got, ok)
		return n, false
	}
	wantNode(t, what+": CrashNode", got, ok, want)
	if got.Term != n.Term || got.Vote != n.Vote || !slices.Equal(got.Log, n.Log) {
		t.Errorf("%s: CrashNode leaves not what the disk has: %s, of %s", what, shown(got), shown(n))
	}
	return got, ok
}

func checkCommitted(t *testing.T, what string, n impl.RaftNode) {
	t.Helper()
	var want []impl.Entry
	good := isNodeByHand(n)
	if good {
		want = n.Log[:n.Commit]
	}
	got, ok := impl.CommittedIn(n)
	if ok != good || !slices.Equal(got, want) {
		t.Errorf("%s: CommittedIn %s: %s %v, want %s %v", what, shown(n), shown(got), ok, shown(want), good)
	}
	wantNothingBehind(t, what+": CommittedIn", got)
}

func checkUpToDate(t *testing.T, what string, n impl.RaftNode, index int, term int) {
	t.Helper()
	want, is := upToDateByHand(n, index, term)
	if got, ok := impl.UpToDate(n, index, term); got != want || ok != is {
		t.Errorf("%s: UpToDate %d, %d of %s: %v %v, want %v %v", what, index, term, shown(n), got, ok, want, is)
	}
}

// wantKept asks of a step other than a crash for promise 11.
func wantKept(t *testing.T, what string, before impl.RaftNode, after impl.RaftNode) {
	t.Helper()
	told := func(fault string) {
		t.Helper()
		t.Errorf("%s: %s: %s, of %s", what, fault, shown(after), shown(before))
	}
	if after.Id != before.Id || after.Peers != before.Peers {
		told("it is another node")
	}
	if after.Term < before.Term {
		told("Term falls")
	}
	if after.Term == before.Term && before.Vote != -1 && after.Vote != before.Vote {
		told("another Vote in the same Term")
	}
	if after.Commit < before.Commit || len(after.Log) < before.Commit || !slices.Equal(after.Log[:before.Commit], before.Log[:before.Commit]) {
		told("what is committed is gone")
		return
	}
	if before.Role == impl.RoleLeads && after.Role == impl.RoleLeads {
		wantLedOn(t, what, before, after)
	}
}

// wantLedOn asks of one that leads, and did, for entries behind its log alone and for a Commit of its own Term.
func wantLedOn(t *testing.T, what string, before impl.RaftNode, after impl.RaftNode) {
	t.Helper()
	many := len(before.Log)
	if after.Term != before.Term || len(after.Log) < many || !slices.Equal(after.Log[:many], before.Log) {
		t.Errorf("%s: who leads changes its log or Term: %s, of %s", what, shown(after), shown(before))
		return
	}
	for _, e := range after.Log[many:] {
		if e.Term != after.Term {
			t.Errorf("%s: who leads puts an entry of term %d: %s", what, e.Term, shown(after))
		}
	}
	if after.Commit > before.Commit && after.Log[after.Commit-1].Term != after.Term {
		t.Errorf("%s: who leads commits an entry of an earlier term: %s", what, shown(after))
	}
}
