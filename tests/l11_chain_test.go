package tests

import (
	"fmt"
	"slices"
	"testing"

	"loop.example/g00224/impl"
)

// A crowd is nodes and what is on its way between them, beside what was ever seen of them: whom each voted for in a term, who led in a term, how much each had committed at most, and what was committed by anyone.
type crowd struct {
	nodes     []impl.RaftNode
	net       []impl.RaftMsg
	votes     map[[2]int]int
	leads     map[int]int
	most      []int
	committed []impl.Entry
	cuts      int
	sides     []int
}

func crowdOf(t *testing.T, peers int) *crowd {
	t.Helper()
	c := &crowd{votes: map[[2]int]int{}, leads: map[int]int{}, most: make([]int, peers)}
	for id := range peers {
		n, ok := impl.NewNode(id, peers)
		if !ok {
			t.Fatalf("NewNode(%d, %d) is refused", id, peers)
		}
		c.nodes = append(c.nodes, n)
	}
	return c
}

// copied may go on another way than the crowd itself.
func (c *crowd) copied() *crowd {
	out := &crowd{nodes: slices.Clone(c.nodes), net: slices.Clone(c.net), votes: map[[2]int]int{}, leads: map[int]int{}, most: slices.Clone(c.most), committed: slices.Clone(c.committed), cuts: c.cuts, sides: c.sides}
	for k, v := range c.votes {
		out.votes[k] = v
	}
	for k, v := range c.leads {
		out.leads[k] = v
	}
	return out
}

// put sets a node as it is behind a step, and asks for what must hold over the whole chain.
func (c *crowd) put(t *testing.T, what string, n impl.RaftNode, l []impl.RaftMsg) {
	t.Helper()
	before := c.nodes[n.Id]
	if n.Term < before.Term {
		t.Errorf("%s: Term falls: %s, of %s", what, shown(n), shown(before))
	}
	if len(n.Log) < len(before.Log) || !slices.Equal(n.Log[:len(before.Log)], before.Log) {
		c.cuts++
	}
	c.nodes[n.Id] = n
	c.net = append(c.net, l...)
	if n.Vote != -1 {
		vote, voted := c.votes[[2]int{n.Id, n.Term}]
		if voted && vote != n.Vote {
			t.Errorf("%s: %d votes for %d and %d in term %d", what, n.Id, vote, n.Vote, n.Term)
		}
		c.votes[[2]int{n.Id, n.Term}] = n.Vote
	}
	if n.Role == impl.RoleLeads {
		who, led := c.leads[n.Term]
		if led && who != n.Id {
			t.Errorf("%s: %d and %d lead in term %d", what, who, n.Id, n.Term)
		}
		c.leads[n.Term] = n.Id
	}
	c.most[n.Id] = max(c.most[n.Id], n.Commit)
	for len(c.committed) < n.Commit {
		c.committed = append(c.committed, n.Log[len(c.committed)])
	}
	if most := c.most[n.Id]; len(n.Log) < most || !slices.Equal(n.Log[:most], c.committed[:most]) {
		t.Errorf("%s: what was committed is gone: %s, want %s", what, shown(n.Log), shown(c.committed[:most]))
	}
}

func (c *crowd) timeout(t *testing.T, what string, id int) {
	t.Helper()
	if n, l, ok := checkTimeout(t, what, c.nodes[id]); ok {
		c.put(t, what, n, l)
	}
}

// deliver hands a message over; unless it is kept it goes from the net.
func (c *crowd) deliver(t *testing.T, what string, at int, kept bool) {
	t.Helper()
	m := c.net[at]
	if !kept {
		c.net = slices.Delete(slices.Clone(c.net), at, at+1)
	}
	n, l, ok := checkHandled(t, what, c.nodes[m.To], m)
	if !ok {
		t.Errorf("%s: %s is not handled by %s", what, shown(m), shown(c.nodes[m.To]))
		return
	}
	c.put(t, what, n, l)
}

func (c *crowd) propose(t *testing.T, what string, id int, data string) {
	t.Helper()
	if n, ok := checkPropose(t, what, c.nodes[id], data); ok {
		c.put(t, what, n, nil)
	}
}

func (c *crowd) send(t *testing.T, what string, id int, peer int, many int) {
	t.Helper()
	if m, ok := checkAppend(t, what, c.nodes[id], peer, many); ok {
		c.put(t, what, c.nodes[id], []impl.RaftMsg{m})
	}
}

func (c *crowd) crash(t *testing.T, what string, id int) {
	t.Helper()
	if n, ok := checkCrashNode(t, what, c.nodes[id]); ok {
		c.put(t, what, n, nil)
	}
}

// all delivers until nothing is on its way.
func (c *crowd) all(t *testing.T, what string) {
	t.Helper()
	for i := 0; len(c.net) > 0; i++ {
		if i > 1000 {
			t.Fatalf("%s: messages without end", what)
		}
		c.deliver(t, what, 0, false)
	}
}

// leader is who leads in the greatest term, -1 where nobody does.
func (c *crowd) leader() int {
	who := -1
	for id, n := range c.nodes {
		if n.Role == impl.RoleLeads && (who < 0 || n.Term > c.nodes[who].Term) {
			who = id
		}
	}
	return who
}

// A round: one is chosen, entries are put to it, and all have them in the end.
func TestARoundOfAll(t *testing.T) {
	for peers := 1; peers <= 7; peers++ {
		c := crowdOf(t, peers)
		for round := range 9 {
			what := fmt.Sprintf("round %d of %d", round, peers)
			id := round % peers
			if c.nodes[id].Role == impl.RoleLeads {
				c.crash(t, what, id)
			}
			c.timeout(t, what, id)
			c.all(t, what)
			if c.leader() != id {
				t.Fatalf("%s: %d leads", what, c.leader())
			}
			c.propose(t, what, id, fmt.Sprint("a", round))
			c.propose(t, what, id, fmt.Sprint("b", round))
			for range 30 {
				for peer := range peers {
					c.send(t, what, id, peer, 2)
				}
				c.all(t, what)
			}
			for _, n := range c.nodes {
				if n.Commit != 2*(round+1) || !slices.Equal(n.Log, c.nodes[id].Log) {
					t.Errorf("%s: %s", what, shown(n))
				}
			}
		}
	}
}

// By the paper's figure 8: an entry of an earlier term that most have is not committed, and may be cut; with one of its own Term behind it, it is.
func TestWhatIsOfAnEarlierTermWaits(t *testing.T) {
	c := crowdOf(t, 5)
	c.timeout(t, "0 asks", 0)
	c.all(t, "0 leads")
	c.propose(t, "0", 0, "first")
	c.send(t, "0 to 1", 0, 1, 9)
	c.all(t, "0 to 1")
	c.crash(t, "0", 0)
	c.timeout(t, "4 asks", 4)
	c.net = slices.DeleteFunc(c.net, func(m impl.RaftMsg) bool { return m.To < 2 })
	c.all(t, "4 leads")
	c.propose(t, "4", 4, "second")
	c.crash(t, "4", 4)
	c.timeout(t, "0 asks again", 0)
	c.timeout(t, "0 asks again", 0)
	c.net = slices.DeleteFunc(c.net, func(m impl.RaftMsg) bool { return m.To > 2 })
	c.all(t, "0 leads again")
	if c.leader() != 0 || c.nodes[0].Term != 3 {
		t.Fatalf("who leads is %d: %s", c.leader(), shown(c.nodes[0]))
	}
	c.send(t, "0 to 2", 0, 2, 9)
	c.send(t, "0 to 1", 0, 1, 9)
	c.all(t, "0 to 1 and 2")
	if n := c.nodes[0]; n.Commit != 0 || n.Match[1] != 1 || n.Match[2] != 1 {
		t.Errorf("three of five have an entry of an earlier term: %s", shown(n))
	}
	other := c.copied()
	other.propose(t, "0 once more", 0, "third")
	other.send(t, "0 to 2", 0, 2, 9)
	other.send(t, "0 to 1", 0, 1, 9)
	other.all(t, "0 to 1 and 2")
	if n := other.nodes[0]; n.Commit != 2 {
		t.Errorf("three of five have an entry of its Term: %s", shown(n))
	}
	c.timeout(t, "4 asks", 4)
	c.timeout(t, "4 asks", 4)
	c.net = slices.DeleteFunc(c.net, func(m impl.RaftMsg) bool { return m.To == 0 })
	c.all(t, "4 leads")
	for peer := range 4 {
		c.send(t, "4 to all", 4, peer, 9)
	}
	c.all(t, "4 to all")
	for id, n := range c.nodes {
		if len(n.Log) != 1 || n.Log[0].Data != "second" {
			t.Errorf("%d: %s", id, shown(n))
		}
	}
}

// anyLeader is one of those that lead, in whatever term, -1 where nobody does.
func (c *crowd) anyLeader(d *dealing) int {
	var l []int
	for id, n := range c.nodes {
		if n.Role == impl.RoleLeads {
			l = append(l, id)
		}
	}
	if len(l) == 0 {
		return -1
	}
	return l[d.below(len(l))]
}

// part lets the nodes reach only some of each other for a while: a message to one on another side is lost.
func (c *crowd) part(d *dealing) {
	c.sides = nil
	for range c.nodes {
		c.sides = append(c.sides, d.below(2))
	}
}

// step does any one thing to a crowd.
func (c *crowd) step(t *testing.T, what string, d *dealing) {
	t.Helper()
	id := d.below(len(c.nodes))
	who := c.anyLeader(d)
	at := d.below(len(c.net) + 1)
	switch pick := d.below(40); {
	case pick < 1:
		c.crash(t, what+", crash", id)
	case pick < 3:
		c.timeout(t, what+", timeout", id)
	case pick < 6 && who >= 0:
		c.propose(t, what+", propose", who, fmt.Sprint(what, mixed(3, d.below(50))))
	case pick < 7:
		c.propose(t, what+", propose", id, "wild")
	case pick < 15 && who >= 0:
		c.send(t, what+", send", who, d.below(len(c.nodes)+1), d.below(5))
	case pick < 16:
		c.send(t, what+", send", id, d.below(len(c.nodes)+1)-1, d.below(63)-1)
	case at == len(c.net):
		return
	case pick < 17 || c.sides[c.net[at].From] != c.sides[c.net[at].To]:
		c.net = slices.Delete(slices.Clone(c.net), at, at+1)
	case pick < 19:
		c.deliver(t, what+", deliver twice", at, true)
	default:
		c.deliver(t, what+", deliver", at, false)
	}
	// Old messages are not lost at once, so that they come late.
	if len(c.net) > 40 {
		c.net = slices.Delete(slices.Clone(c.net), 0, 20)
	}
}

// Long chains of messages that come late, twice or not at all, timeouts, proposals and crashes.
func TestLongChainsOfACrowd(t *testing.T) {
	type seen struct{ committed, leads, cuts int }
	all := make(chan seen, 1000)
	t.Run("all", func(t *testing.T) {
		for peers := 1; peers <= 7; peers++ {
			for seed := range 80 {
				t.Run(fmt.Sprint(peers, " peers, seed ", seed), func(t *testing.T) {
					t.Parallel()
					c := crowdOf(t, peers)
					d := dealingOf(seed*7 + peers)
					for i := range 1500 {
						if i%60 == 0 {
							c.part(d)
						}
						c.step(t, fmt.Sprint("step ", i), d)
					}
					all <- seen{committed: len(c.committed), leads: len(c.leads), cuts: c.cuts}
				})
			}
		}
	})
	close(all)
	var sum seen
	for s := range all {
		sum.committed += s.committed
		sum.leads += s.leads
		sum.cuts += s.cuts
	}
	if sum.committed < 4000 || sum.leads < 4000 || sum.cuts < 150 {
		t.Errorf("the chains are too quiet: %+v", sum)
	}
}

// crowdSteps are few steps, for chains of all of them.
func crowdSteps() []func(t *testing.T, what string, c *crowd) {
	return []func(t *testing.T, what string, c *crowd){
		func(t *testing.T, what string, c *crowd) { c.timeout(t, what, 0) },
		func(t *testing.T, what string, c *crowd) { c.timeout(t, what, 1) },
		func(t *testing.T, what string, c *crowd) { c.crash(t, what, 0) },
		func(t *testing.T, what string, c *crowd) {
			if len(c.net) > 0 {
				c.deliver(t, what, 0, false)
			}
		},
		func(t *testing.T, what string, c *crowd) {
			if len(c.net) > 0 {
				c.deliver(t, what, len(c.net)-1, true)
			}
		},
		func(t *testing.T, what string, c *crowd) { c.propose(t, what, max(c.leader(), 0), "x") },
		func(t *testing.T, what string, c *crowd) {
			who := max(c.leader(), 0)
			c.send(t, what, who, (who+1)%3, 2)
		},
	}
}

func walkCrowd(t *testing.T, what string, c *crowd, deep int) int {
	if deep == 0 {
		return 1
	}
	many := 1
	for i, do := range crowdSteps() {
		next := c.copied()
		do(t, what, next)
		many += walkCrowd(t, what+fmt.Sprint(" ", i), next, deep-1)
	}
	return many
}

// Every chain of up to five steps, from new nodes and from some that have logs which differ.
func TestAllShortChainsOfACrowd(t *testing.T) {
	led := func(t *testing.T) *crowd {
		c := crowdOf(t, 3)
		c.timeout(t, "start", 0)
		c.all(t, "start")
		c.propose(t, "start", 0, "a")
		c.send(t, "start", 0, 1, 5)
		return c
	}
	starts := map[string]func(t *testing.T) *crowd{
		"new": func(t *testing.T) *crowd { return crowdOf(t, 3) },
		"led": led,
		"logs that differ": func(t *testing.T) *crowd {
			c := led(t)
			c.net = nil
			c.propose(t, "start", 0, "b")
			c.timeout(t, "start", 1)
			c.net = slices.DeleteFunc(c.net, func(m impl.RaftMsg) bool { return m.To == 0 })
			c.all(t, "start")
			c.propose(t, "start", 1, "c")
			c.send(t, "start", 1, 0, 5)
			return c
		},
	}
	for name, start := range starts {
		t.Run(name, func(t *testing.T) {
			t.Parallel()
			if many := walkCrowd(t, name, start(t), 5); many < 19000 {
				t.Errorf("%d chains: too few", many)
			}
		})
	}
}

// dealtNode is any good node.
func (d *dealing) dealtNode() impl.RaftNode {
	peers := 1 + d.below(7)
	id := d.below(peers)
	term := 1 + d.below(8)
	log := d.dealtLog(d.below(8), term)
	commit := d.below(len(log) + 1)
	switch d.below(3) {
	case 0:
		if peers > 1 {
			votes := []int{id}
			for from := range peers {
				if from != id && d.below(3) == 0 && 2*(len(votes)+1) <= peers {
					votes = append(votes, from)
				}
			}
			slices.Sort(votes)
			return askingNode(id, peers, term, log, commit, votes...)
		}
	case 1:
		var match []int
		for range peers {
			match = append(match, d.below(len(log)+1))
		}
		match[id] = len(log)
		return leadingNode(id, peers, term, log, commit, match...)
	}
	return followingNode(id, peers, term, d.below(peers+1)-1, log, commit)
}

func (d *dealing) dealtLog(many int, term int) []impl.Entry {
	var terms []int
	for range many {
		terms = append(terms, 1+d.below(term))
	}
	slices.Sort(terms)
	return logOf(terms...)
}

// dealtMsg is a message to a node, most often one that fits it.
func (d *dealing) dealtMsg(n impl.RaftNode) impl.RaftMsg {
	from := d.below(n.Peers)
	term := max(n.Term+d.below(4)-2, 1)
	if d.below(3) > 0 {
		term = max(n.Term, 1)
	}
	index := d.below(len(n.Log) + 2)
	_, before := lastByHand(n.Log[:min(index, len(n.Log))])
	if d.below(6) == 0 {
		before = d.below(term + 1)
	}
	switch d.below(6) {
	case 0:
		return askMsg(from, n.Id, term, index, before)
	case 1:
		return voteMsg(from, n.Id, term, d.below(4) > 0)
	case 2:
		return toldMsg(from, n.Id, term, index, d.below(3) > 0)
	}
	m := appendMsg(from, n.Id, term, index, before, d.below(len(n.Log)+3))
	if d.below(3) > 0 {
		m.Entries = append(m.Entries, n.Log[min(index, len(n.Log)):min(index+d.below(4), len(n.Log))]...)
	}
	_, least := lastByHand(m.Entries)
	for range d.below(3) {
		least = min(max(least, before, 1)+d.below(3), max(term, 1))
		m.Entries = append(m.Entries, impl.Entry{Term: least, Data: mixed(3, d.below(100))})
	}
	return m
}

// A node that any messages come to, of whom ever, as no crowd would send them: promise 11 holds of it all the same.
func TestWildChains(t *testing.T) {
	handled, refused, led := 0, 0, 0
	for seed := range 400 {
		d := dealingOf(seed)
		n := d.dealtNode()
		what := fmt.Sprint("seed ", seed)
		checkGoodNode(t, what, n, true)
		votes := map[int]int{}
		for range 60 {
			ok := true
			switch d.below(12) {
			case 0:
				n, _, ok = checkTimeout(t, what, n)
			case 1, 2:
				n, ok = checkPropose(t, what, n, "wild")
			case 3:
				if d.below(4) == 0 {
					n, ok = checkCrashNode(t, what, n)
				}
			default:
				n, _, ok = checkHandled(t, what, n, d.dealtMsg(n))
			}
			if vote, voted := votes[n.Term]; n.Vote != -1 {
				if voted && vote != n.Vote {
					t.Errorf("%s: votes for %d and %d in term %d", what, vote, n.Vote, n.Term)
				}
				votes[n.Term] = n.Vote
			}
			checkCommitted(t, what, n)
			checkAppend(t, what, n, d.below(n.Peers), d.below(5))
			checkUpToDate(t, what, n, d.below(9), d.below(9))
			if ok {
				handled++
			} else {
				refused++
			}
			if n.Role == impl.RoleLeads {
				led++
			}
		}
	}
	if handled < 10000 || refused < 1000 || led < 2000 {
		t.Errorf("the chains are too quiet: %d, %d, %d", handled, refused, led)
	}
}

// Terms go on to the last and no further.
func TestAChainOfTimeouts(t *testing.T) {
	n, _ := impl.NewNode(1, 3)
	for i := range 1003 {
		next, _, ok := checkTimeout(t, "again and again", n)
		if ok != (i < 1000) || next.Term != min(i+1, 1000) {
			t.Fatalf("timeout %d: %v, %s", i, ok, shown(next))
		}
		n = next
	}
	wantHandled(t, "the last term", n, askMsg(0, 1, 1000, 60, 1000), n, voteMsg(1, 0, 1000, false))
	wantHandled(t, "leads in the last term", n, voteMsg(0, 1, 1000, true), leadingNode(1, 3, 1000, nil, 0, 0, 0, 0))
}
