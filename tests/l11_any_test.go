package tests

import (
	"fmt"
	"math"
	"slices"
	"testing"

	"loop.example/g00224/impl"
)

// behindEntry would do at the end of any log of the greatest term.
func behindEntry() impl.Entry {
	return impl.Entry{Term: 1000, Data: "behind"}
}

const behindNumber = 1

// roomyNode copies a node into lists with something behind their lengths.
func roomyNode(n impl.RaftNode) impl.RaftNode {
	n.Log = roomy(n.Log, behindEntry())
	n.Votes = roomy(n.Votes, behindNumber)
	n.Match = roomy(n.Match, behindNumber)
	return n
}

func untouchedNode(got impl.RaftNode, n impl.RaftNode) bool {
	made := roomyNode(n)
	return sameNode(got, n) && slices.Equal(whole(got.Log), whole(made.Log)) && slices.Equal(whole(got.Votes), whole(made.Votes)) && slices.Equal(whole(got.Match), whole(made.Match))
}

func roomyMsg(m impl.RaftMsg) impl.RaftMsg {
	m.Entries = roomy(m.Entries, behindEntry())
	return m
}

func untouchedMsg(got impl.RaftMsg, m impl.RaftMsg) bool {
	return sameMsg(got, m) && slices.Equal(whole(got.Entries), whole(roomyMsg(m).Entries))
}

// scribbleNode writes over all of a node's memory.
func scribbleNode(n impl.RaftNode) {
	fill(whole(n.Log), impl.Entry{Term: 77, Data: "scribble"})
	fill(whole(n.Votes), 77)
	fill(whole(n.Match), 77)
}

func scribbleMsgs(l []impl.RaftMsg) {
	for _, m := range whole(l) {
		fill(whole(m.Entries), impl.Entry{Term: 77, Data: "scribble"})
	}
	fill(whole(l), impl.RaftMsg{Kind: 77, From: 77})
}

// A nodeMade is all that one call makes of a node: any of it may be empty.
type nodeMade struct {
	node    impl.RaftNode
	msgs    []impl.RaftMsg
	entries []impl.Entry
	number  int
	ok      bool
}

func sameMade(a nodeMade, b nodeMade) bool {
	return sameNode(a.node, b.node) && sameMsgs(a.msgs, b.msgs) && slices.Equal(a.entries, b.entries) && a.number == b.number && a.ok == b.ok
}

func (x nodeMade) scribble() {
	scribbleNode(x.node)
	scribbleMsgs(x.msgs)
	fill(whole(x.entries), impl.Entry{Term: 77, Data: "scribble"})
}

// A nodeCall calls the program, and does the same by the document's words.
type nodeCall struct {
	name   string
	call   func(n impl.RaftNode) nodeMade
	byHand func(n impl.RaftNode) nodeMade
}

func plainCalls() []nodeCall {
	told := func(node impl.RaftNode, msgs []impl.RaftMsg, ok bool) nodeMade {
		return nodeMade{node: node, msgs: msgs, ok: ok}
	}
	crashed := func(node impl.RaftNode, ok bool) nodeMade { return nodeMade{node: node, ok: ok} }
	put := func(node impl.RaftNode, index int, ok bool) nodeMade {
		return nodeMade{node: node, number: index, ok: ok}
	}
	committed := func(l []impl.Entry, ok bool) nodeMade { return nodeMade{entries: l, ok: ok} }
	return []nodeCall{
		{"TimeoutNode", func(n impl.RaftNode) nodeMade { return told(impl.TimeoutNode(n)) }, func(n impl.RaftNode) nodeMade { return told(timeoutByHand(n)) }},
		{"CrashNode", func(n impl.RaftNode) nodeMade { return crashed(impl.CrashNode(n)) }, func(n impl.RaftNode) nodeMade { return crashed(crashByHand(n)) }},
		{"ProposeNode", func(n impl.RaftNode) nodeMade { return put(impl.ProposeNode(n, "new")) }, func(n impl.RaftNode) nodeMade { return put(proposeByHand(n, "new")) }},
		{"ProposeNode of too much", func(n impl.RaftNode) nodeMade { return put(impl.ProposeNode(n, sized(101))) }, func(n impl.RaftNode) nodeMade { return put(proposeByHand(n, sized(101))) }},
		{"CommittedIn", func(n impl.RaftNode) nodeMade { return committed(impl.CommittedIn(n)) }, func(n impl.RaftNode) nodeMade {
			if !isNodeByHand(n) {
				return nodeMade{}
			}
			return nodeMade{entries: slices.Clone(n.Log[:n.Commit]), ok: true}
		}},
		{"GoodNode", func(n impl.RaftNode) nodeMade { return nodeMade{ok: impl.GoodNode(n)} }, func(n impl.RaftNode) nodeMade { return nodeMade{ok: isNodeByHand(n)} }},
	}
}

func numberCalls() []nodeCall {
	upTo := func(up bool, ok bool) nodeMade {
		if up {
			return nodeMade{number: 1, ok: ok}
		}
		return nodeMade{ok: ok}
	}
	sent := func(m impl.RaftMsg, ok bool) nodeMade {
		if !ok && sameMsg(m, impl.RaftMsg{}) {
			return nodeMade{}
		}
		return nodeMade{msgs: []impl.RaftMsg{m}, ok: ok}
	}
	var l []nodeCall
	for _, a := range []int{math.MinInt, -1, 0, 1, 2, 3, 60, 61, math.MaxInt} {
		for _, b := range []int{math.MinInt, -1, 0, 1, 5, 60, 61, math.MaxInt} {
			l = append(l, nodeCall{fmt.Sprint("UpToDate ", a, " ", b),
				func(n impl.RaftNode) nodeMade { return upTo(impl.UpToDate(n, a, b)) },
				func(n impl.RaftNode) nodeMade { return upTo(upToDateByHand(n, a, b)) }})
			l = append(l, nodeCall{fmt.Sprint("AppendFor ", a, " ", b),
				func(n impl.RaftNode) nodeMade { return sent(impl.AppendFor(n, a, b)) },
				func(n impl.RaftNode) nodeMade { return sent(appendByHand(n, a, b)) }})
		}
	}
	return l
}

// fewMsgs are some of the messages to a node, good and not.
func fewMsgs(n impl.RaftNode) []impl.RaftMsg {
	var l []impl.RaftMsg
	if isNodeByHand(n) {
		for i, m := range msgsTo(n) {
			if i%23 == 0 {
				l = append(l, m)
			}
		}
	}
	for _, k := range kindsOfMsg() {
		for _, term := range []int{0, 1, 5, 6, 1001} {
			set := func(m *impl.RaftMsg) { m.Term = term }
			l = append(l, changedMsg(k.bare, set), changedMsg(k.full, set))
		}
	}
	return append(l, impl.RaftMsg{}, impl.RaftMsg{Kind: math.MaxInt, From: math.MinInt, To: n.Id, Term: 5, Index: math.MaxInt, Entries: logOf(1)})
}

func callsOf(n impl.RaftNode) []nodeCall {
	l := append(plainCalls(), numberCalls()...)
	for _, m := range fewMsgs(n) {
		l = append(l, nodeCall{"HandleMsg " + shown(m),
			func(n impl.RaftNode) nodeMade {
				node, msgs, ok := impl.HandleMsg(n, m)
				return nodeMade{node: node, msgs: msgs, ok: ok}
			},
			func(n impl.RaftNode) nodeMade {
				node, msgs, ok := handleByHand(n, m)
				return nodeMade{node: node, msgs: msgs, ok: ok}
			}})
	}
	return l
}

// allNodes are nodes, good and not.
func allNodes() map[string]impl.RaftNode {
	l := badNodes()
	for name, n := range manyNodes() {
		l["good: "+name] = n
	}
	return l
}

// No node is written into, nothing behind its lists is read, and nothing of it is kept: what was answered stays when it is written over.
func TestNothingOfANodeIsWrittenIntoOrKept(t *testing.T) {
	for name, n := range allNodes() {
		for _, c := range callsOf(n) {
			arg := roomyNode(n)
			got := c.call(arg)
			if !untouchedNode(arg, n) {
				t.Errorf("%s: %s writes into the node", name, c.name)
			}
			scribbleNode(arg)
			if want := c.byHand(n); !sameMade(got, want) {
				t.Errorf("%s: %s: %s, want %s", name, c.name, shown(got), shown(want))
			}
		}
	}
}

// What was answered may be written into: neither the node nor a later answer changes.
func TestWhatIsMadeOfANodeMayBeWrittenInto(t *testing.T) {
	for name, n := range allNodes() {
		arg := copiedNode(n)
		for _, c := range callsOf(n) {
			want := c.byHand(n)
			for range 2 {
				got := c.call(arg)
				if !sameMade(got, want) {
					t.Errorf("%s: %s: %s, want %s", name, c.name, shown(got), shown(want))
				}
				wantNothingBehindNode(t, name+": "+c.name, got.node)
				wantNothingBehind(t, name+": "+c.name, got.entries)
				for _, m := range got.msgs {
					wantNothingBehind(t, name+": "+c.name, m.Entries)
				}
				got.scribble()
			}
			if !sameNode(arg, n) {
				t.Fatalf("%s: the node is changed with what %s answered", name, c.name)
			}
		}
	}
	for range 2 {
		n, ok := impl.NewNode(2, 5)
		wantNode(t, "NewNode", n, ok, impl.RaftNode{Id: 2, Peers: 5, Vote: -1})
		scribbleNode(n)
	}
}

func TestNothingOfAMessageIsWrittenIntoOrKept(t *testing.T) {
	for name, n := range allNodes() {
		for _, m := range fewMsgs(n) {
			arg := roomyMsg(m)
			good := impl.GoodRaftMsg(arg, n.Peers)
			node, msgs, ok := impl.HandleMsg(n, arg)
			if !untouchedMsg(arg, m) {
				t.Errorf("%s: %s is written into", name, shown(m))
			}
			fill(whole(arg.Entries), impl.Entry{Term: 77, Data: "scribble"})
			if good != isMsgByHand(m, n.Peers) {
				t.Errorf("%s: GoodRaftMsg %s: %v", name, shown(m), good)
			}
			want, answers, is := handleByHand(n, m)
			if !sameNode(node, want) || !sameMsgs(msgs, answers) || ok != is {
				t.Errorf("%s: %s: %s %s %v, want %s %s %v", name, shown(m), shown(node), shown(msgs), ok, shown(want), shown(answers), is)
			}
			wantNothingBehindNode(t, name, node)
			scribbleNode(node)
			scribbleMsgs(msgs)
			again, _, _ := impl.HandleMsg(n, m)
			if !sameNode(again, want) {
				t.Errorf("%s: %s: another answer the second time: %s, want %s", name, shown(m), shown(again), shown(want))
			}
		}
	}
}

// A message of AppendFor shares nothing with who sends it, nor its entries with the log of who takes them.
func TestEntriesOnTheirWayShareNothing(t *testing.T) {
	log := logOf(1, 2, 2, 3)
	sender := leadingNode(0, 2, 3, slices.Clone(log), 0, 4, 0)
	m, _ := impl.AppendFor(sender, 1, 4)
	taker, _, _ := impl.HandleMsg(followingNode(1, 2, 3, -1, nil, 0), m)
	taken, _ := impl.CommittedIn(leadingNode(1, 2, 3, taker.Log, 4, 4, 4))
	fill(whole(sender.Log), impl.Entry{Term: 1, Data: "one"})
	if !slices.Equal(m.Entries, log) {
		t.Error("the message shares memory with who sends it")
	}
	fill(whole(m.Entries), impl.Entry{Term: 1, Data: "two"})
	if !slices.Equal(taker.Log, log) {
		t.Error("who takes entries shares memory with the message")
	}
	fill(whole(taker.Log), impl.Entry{Term: 1, Data: "three"})
	if !slices.Equal(taken, log) {
		t.Error("what is committed shares memory with the log")
	}
}

// What is cut goes for good: nothing of it lies behind the log.
func TestNoEntryThatIsCutLiesBehindALog(t *testing.T) {
	log := entriesOf(40, 2, 3)
	for at := range 40 {
		_, before := lastByHand(log[:at])
		n, _, ok := impl.HandleMsg(followingNode(0, 2, 5, -1, log, at/2), appendMsg(1, 0, 5, at, before, 0, logOf(5)...))
		if !ok || len(n.Log) != at+1 {
			t.Errorf("cut at %d: %s %v", at, shown(n), ok)
		}
		wantNothingBehind(t, fmt.Sprint("cut at ", at), n.Log)
	}
}

// Two lists of numbers of one node are never there at once; what led and asks, or asked and leads, has nothing of the other left.
func TestNodesThatChangeTheirRoleShareNothing(t *testing.T) {
	asks := askingNode(1, 3, 5, logOf(1), 0, 1)
	leads, _, _ := impl.HandleMsg(asks, voteMsg(0, 1, 5, true))
	fill(whole(leads.Match), 77)
	fill(whole(leads.Log), impl.Entry{Term: 77})
	if !sameNode(asks, askingNode(1, 3, 5, logOf(1), 0, 1)) {
		t.Errorf("who asked is changed: %s", shown(asks))
	}
	more := askingNode(1, 7, 5, logOf(1), 0, 1)
	more.Votes = slices.Grow(more.Votes, 8)
	next, _, _ := impl.HandleMsg(more, voteMsg(0, 1, 5, true))
	wantNode(t, "one vote more", next, true, askingNode(1, 7, 5, logOf(1), 0, 0, 1))
	if !sameNode(more, askingNode(1, 7, 5, logOf(1), 0, 1)) {
		t.Errorf("who asks on is changed: %s", shown(more))
	}
}

// Several nodes may lie in one memory: each is read as its own.
func TestNodesThatLieInEachOther(t *testing.T) {
	log := entriesOf(60, 3, 2)
	kept := slices.Clone(log)
	for many := range 61 {
		n := leadingNode(0, 3, 3, log[:many], many/2, many, 0, 0)
		want := leadingNode(0, 3, 3, kept[:many], many/2, many, 0, 0)
		checkPropose(t, "a part", n, "new")
		checkCommitted(t, "a part", n)
		checkAppend(t, "a part", n, 1, 60)
		checkTimeout(t, "a part", followingNode(0, 3, 3, -1, log[:many], many/2))
		if many < 60 {
			checkHandled(t, "a part", followingNode(0, 3, 3, -1, log[:many], many/2), appendMsg(1, 0, 3, many, lastTermOf(log[:many]), 60, logOf(3)...))
		}
		if !sameNode(n, want) || !slices.Equal(log, kept) {
			t.Fatalf("a part of %d is written behind", many)
		}
	}
}

func lastTermOf(log []impl.Entry) int {
	_, term := lastByHand(log)
	return term
}

// What was answered ahead stays as it was, whatever is asked for later.
func TestNodesThatWereAnsweredStay(t *testing.T) {
	for seed := range 20 {
		d := dealingOf(seed + 900)
		n := d.dealtNode()
		row, kept := []impl.RaftNode{n}, []impl.RaftNode{copiedNode(n)}
		for range 40 {
			next, ok := n, false
			switch d.below(5) {
			case 0:
				next, _, ok = impl.TimeoutNode(n)
			case 1:
				next, _, ok = impl.ProposeNode(n, "more")
			default:
				next, _, ok = impl.HandleMsg(n, d.dealtMsg(n))
			}
			if ok {
				n = next
				row, kept = append(row, n), append(kept, copiedNode(n))
			}
		}
		for i := range row {
			if !sameNode(row[i], kept[i]) {
				t.Errorf("seed %d: answer %d is changed by a later call", seed, i)
			}
		}
	}
}

// Each wrong beside all else right or wrong: no call fails to answer.
func TestNodesAtAnyArguments(t *testing.T) {
	numbers := []int{math.MinInt, -2, -1, 0, 1, 2, 3, 6, 7, 8, 60, 61, 1000, 1001, math.MaxInt}
	for _, peers := range numbers {
		for _, id := range numbers {
			for _, x := range numbers {
				for role := -1; role <= 3; role++ {
					n := impl.RaftNode{Id: id, Peers: peers, Term: x, Vote: id, Log: logOf(1, 1), Commit: x, Role: role, Votes: []int{id}, Match: []int{x, 2, x}}
					checkAnyNode(t, n)
					n.Votes = nil
					checkAnyNode(t, n)
					n.Votes, n.Match, n.Commit = []int{id}, nil, 1
					checkAnyNode(t, n)
				}
			}
		}
	}
	for _, peers := range numbers {
		for _, x := range numbers {
			for kind := -1; kind <= 5; kind++ {
				for _, yes := range []bool{false, true} {
					m := impl.RaftMsg{Kind: kind, From: x, To: 0, Term: 3, Index: x, Yes: yes}
					checkGoodMsg(t, "any", m, peers, isMsgByHand(m, peers))
					m = impl.RaftMsg{Kind: kind, From: 1, To: 2, Term: x, Index: 1, Before: x, Entries: logOf(1), Commit: x, Yes: yes}
					checkGoodMsg(t, "any", m, peers, isMsgByHand(m, peers))
					checkHandled(t, "any", leadingNode(2, 3, 6, logOf(1, 6), 0, 0, 0, 2), m)
				}
			}
		}
	}
}

func checkAnyNode(t *testing.T, n impl.RaftNode) {
	t.Helper()
	checkGoodNode(t, "any", n, isNodeByHand(n))
	checkTimeout(t, "any", n)
	checkPropose(t, "any", n, "x")
	checkCrashNode(t, "any", n)
	checkCommitted(t, "any", n)
	checkUpToDate(t, "any", n, 2, 1)
	checkAppend(t, "any", n, 1, 1)
	for _, m := range []impl.RaftMsg{askMsg(1, n.Id, 3, 2, 1), voteMsg(1, n.Id, 3, true), appendMsg(1, n.Id, 3, 2, 1, 1), toldMsg(1, n.Id, 3, 1, true)} {
		checkHandled(t, "any", n, m)
	}
}

// What hangs on the order in which something is gone through would show.
func TestNodesAnswerAlikeEachTime(t *testing.T) {
	for name, n := range manyNodes() {
		for _, c := range callsOf(n) {
			first := c.call(n)
			for range 3 {
				if got := c.call(n); !sameMade(got, first) {
					t.Errorf("%s: %s: %s, and then %s", name, c.name, shown(first), shown(got))
				}
			}
		}
	}
}
