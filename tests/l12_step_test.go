package tests

import (
	"fmt"
	"math"
	"slices"
	"testing"

	"loop.example/g00224/impl"
)

// ledThree is three nodes of which 0 leads in Term 5 and has entries that the others lack.
func ledThree() impl.Cluster {
	return clusterWith(3, leadingNode(0, 3, 5, logOf(1, 2, 5), 1, 3, 1, 0), followingNode(1, 3, 5, 0, logOf(1), 1), followingNode(2, 3, 5, -1, nil, 0))
}

// atNode is a cluster with another node in its place.
func atNode(c impl.Cluster, n impl.RaftNode) impl.Cluster {
	return changedCluster(c, func(c *impl.Cluster) { c.Nodes[n.Id] = n })
}

// behindNet is a cluster with more messages behind those on their way.
func behindNet(c impl.Cluster, l ...impl.RaftMsg) impl.Cluster {
	return changedCluster(c, func(c *impl.Cluster) { c.Net = append(c.Net, l...) })
}

// everyKindOfStep are steps that can all be done by ledThree with a message.
func everyKindOfStep() []impl.ClusterStep {
	return []impl.ClusterStep{timeoutOf(1), deliver(0), lose(0), double(0), proposeTo(0, "new"), send(0, 1, 5), crashOf(0)}
}

func TestKindsOfSteps(t *testing.T) {
	c := withNet(ledThree(), voteMsg(2, 0, 5, true))
	for i, s := range everyKindOfStep() {
		if _, ok := checkClusterStep(t, fmt.Sprint("kind ", i+1), c, s); !ok {
			t.Errorf("%v can not be done", s)
		}
		for _, kind := range []int{math.MinInt, -1, 0, 8, 9, math.MaxInt} {
			s.Kind = kind
			wantNotStepped(t, fmt.Sprint("kind ", kind), c, s)
		}
	}
}

func TestStepsOfAClusterThatIsNotGood(t *testing.T) {
	for name, c := range badClusters() {
		for _, s := range everyKindOfStep() {
			wantNotStepped(t, name, c, s)
		}
	}
}

// A step has more fields than its kind asks for: the others do not matter.
func TestOtherFieldsOfAStep(t *testing.T) {
	c := withNet(ledThree(), voteMsg(2, 0, 5, true), askMsg(0, 2, 6, 3, 5))
	for _, s := range everyKindOfStep() {
		want, is := impl.StepCluster(c, s)
		wild := s
		if s.Kind == impl.DoDeliver || s.Kind == impl.DoLose || s.Kind == impl.DoDouble {
			wild.Node = math.MaxInt
		} else if s.Kind != impl.DoSend {
			wild.K = math.MinInt
		}
		if s.Kind != impl.DoSend {
			wild.Many = -7
		}
		if s.Kind != impl.DoPropose {
			wild.Data = sized(5000)
		}
		got, ok := impl.StepCluster(c, wild)
		if ok != is || !sameCluster(got, want) {
			t.Errorf("%v and %v do not do the same", s.Kind, shown(wild))
		}
		checkClusterStep(t, "wild", c, wild)
	}
}

func TestStepsAtNodesThatAreNotThere(t *testing.T) {
	for peers := 1; peers <= 7; peers++ {
		match := make([]int, peers)
		for _, s := range []impl.ClusterStep{timeoutOf(0), crashOf(0), proposeTo(0, "x"), send(0, 0, 1)} {
			for _, node := range []int{math.MinInt, -2, -1, peers, peers + 1, 7, 8, math.MaxInt} {
				s.Node = node
				wantNotStepped(t, fmt.Sprint(s.Kind, " of ", node, " among ", peers), newCluster(peers), s)
			}
			for node := range peers {
				c := clusterWith(peers, leadingNode(node, peers, 3, nil, 0, match...))
				if s.Kind == impl.DoTimeout {
					c = newCluster(peers)
				}
				s.Node, s.K = node, (node+1)%peers
				_, ok := checkClusterStep(t, fmt.Sprint(s.Kind, " of ", node, " among ", peers), c, s)
				// One alone has nobody to send to.
				if ok != (s.Kind != impl.DoSend || peers > 1) {
					t.Errorf("%v of %d among %d: %v", s.Kind, node, peers, ok)
				}
			}
		}
	}
}

func TestStepTimeout(t *testing.T) {
	c := withNet(newCluster(3), toldMsg(0, 2, 9, 4, true))
	want := behindNet(atNode(c, askingNode(2, 3, 1, nil, 0, 2)), askMsg(2, 0, 1, 0, 0), askMsg(2, 1, 1, 0, 0))
	wantStepped(t, "the last one", c, timeoutOf(2), want)
	c = ledThree()
	want = behindNet(atNode(c, askingNode(1, 3, 6, logOf(1), 1, 1)), askMsg(1, 0, 6, 1, 1), askMsg(1, 2, 6, 1, 1))
	wantStepped(t, "one that follows", c, timeoutOf(1), want)
	again := behindNet(atNode(want, askingNode(1, 3, 7, logOf(1), 1, 1)), askMsg(1, 0, 7, 1, 1), askMsg(1, 2, 7, 1, 1))
	wantStepped(t, "one that asks", want, timeoutOf(1), again)
	wantNotStepped(t, "one that leads", c, timeoutOf(0))
	for _, term := range []int{998, 999} {
		c = clusterWith(2, followingNode(0, 2, term, -1, nil, 0))
		wantStepped(t, fmt.Sprint("Term ", term), c, timeoutOf(0), withNet(clusterWith(2, askingNode(0, 2, term+1, nil, 0, 0)), askMsg(0, 1, term+1, 0, 0)))
	}
	wantNotStepped(t, "Term 1000", clusterWith(2, followingNode(0, 2, 1000, -1, nil, 0)), timeoutOf(0))
	wantNotStepped(t, "Term 1000, asks", clusterWith(2, askingNode(0, 2, 1000, nil, 0, 0)), timeoutOf(0))
	wantNotStepped(t, "Term 1000, alone", clusterWith(1, followingNode(0, 1, 1000, -1, nil, 0)), timeoutOf(0))
}

// What is told is put behind Net in order, as far as there is room; the rest is lost, and the step is done all the same.
func TestRoomForTheAsksOfATimeout(t *testing.T) {
	for peers := 2; peers <= 7; peers++ {
		for room := range 9 {
			net := netOf(60 - room)
			c := withNet(newCluster(peers), net...)
			after, asks, _ := impl.TimeoutNode(c.Nodes[1])
			if len(asks) != peers-1 {
				t.Fatalf("%d asks of %d peers", len(asks), peers)
			}
			want := withNet(atNode(c, after), append(net, asks[:min(room, len(asks))]...)...)
			wantStepped(t, fmt.Sprintf("room for %d of %d", room, peers-1), c, timeoutOf(1), want)
		}
	}
}

func TestStepCrash(t *testing.T) {
	c := withLeads(withNet(ledThree(), netOf(3)...), 2)
	wantStepped(t, "one that leads", c, crashOf(0), atNode(c, followingNode(0, 3, 5, 0, logOf(1, 2, 5), 0)))
	wantStepped(t, "one that follows", c, crashOf(1), atNode(c, followingNode(1, 3, 5, 0, logOf(1), 0)))
	wantStepped(t, "the last one", c, crashOf(2), c)
	asks := clusterWith(5, askingNode(3, 5, 6, logOf(1, 2), 1, 1, 3))
	wantStepped(t, "one that asks", asks, crashOf(3), clusterWith(5, followingNode(3, 5, 6, 3, logOf(1, 2), 0)))
	for _, term := range []int{999, 1000} {
		last := clusterWith(2, leadingNode(1, 2, term, logOf(7), 1, 0, 1))
		wantStepped(t, fmt.Sprint("Term ", term), last, crashOf(1), clusterWith(2, followingNode(1, 2, term, 1, logOf(7), 0)))
	}
	// A full Net is nothing to one that tells nothing.
	full := withNet(ledThree(), netOf(60)...)
	wantStepped(t, "a full net", full, crashOf(1), atNode(full, followingNode(1, 3, 5, 0, logOf(1), 0)))
}

func TestStepsOfMessagesThatAreNotThere(t *testing.T) {
	for _, many := range []int{0, 1, 2, 5, 59, 60} {
		c := withNet(newCluster(3), slices.Repeat([]impl.RaftMsg{toldMsg(0, 1, 2, 3, true)}, many)...)
		for _, s := range []impl.ClusterStep{deliver(0), lose(0), double(0)} {
			for _, k := range []int{math.MinInt, -2, -1, many, many + 1, 60, 61, math.MaxInt} {
				s.K = k
				wantNotStepped(t, fmt.Sprint(s.Kind, " of ", k, " among ", many), c, s)
			}
			for _, k := range []int{0, many / 2, many - 1} {
				if !isWithin(k, 0, many-1) {
					continue
				}
				s.K = k
				_, ok := checkClusterStep(t, fmt.Sprint(s.Kind, " of ", k, " among ", many), c, s)
				if ok != (s.Kind != impl.DoDouble || many < 60) {
					t.Errorf("%v of %d among %d: %v", s.Kind, k, many, ok)
				}
			}
		}
	}
}

func TestStepDeliver(t *testing.T) {
	log := logOf(1, 2, 5)
	vote := voteMsg(2, 0, 5, true)
	load := appendMsg(0, 1, 5, 1, 1, 1, log[1:]...)
	ask := askMsg(1, 2, 6, 1, 1)
	c := withNet(ledThree(), vote, load, ask)
	wantStepped(t, "a vote too late", c, deliver(0), withNet(ledThree(), load, ask))
	taken := atNode(ledThree(), followingNode(1, 3, 5, 0, log, 1))
	wantStepped(t, "entries", c, deliver(1), withNet(taken, vote, ask, toldMsg(1, 0, 5, 3, true)))
	voted := atNode(ledThree(), followingNode(2, 3, 6, 1, nil, 0))
	wantStepped(t, "an ask", c, deliver(2), withNet(voted, vote, load, voteMsg(2, 1, 6, true)))
	told := withNet(ledThree(), vote, toldMsg(1, 0, 5, 3, true))
	wantStepped(t, "told", told, deliver(1), withNet(atNode(ledThree(), leadingNode(0, 3, 5, log, 3, 3, 3, 0)), vote))
	deposed := withNet(ledThree(), askMsg(2, 0, 9, 0, 0))
	wantStepped(t, "one that leads is passed by", deposed, deliver(0), withNet(atNode(ledThree(), followingNode(0, 3, 9, -1, log, 1)), voteMsg(0, 2, 9, false)))
}

// A message that the node does not handle stays: nothing can be done.
func TestMessagesThatAreNotHandled(t *testing.T) {
	beyond := withNet(ledThree(), voteMsg(2, 0, 5, true), toldMsg(2, 0, 5, 4, true))
	wantNotStepped(t, "told beyond the log", beyond, deliver(1))
	wantStepped(t, "it may be lost", beyond, lose(1), withNet(ledThree(), voteMsg(2, 0, 5, true)))
	cuts := withNet(ledThree(), appendMsg(0, 1, 5, 0, 0, 0, logOf(3)...))
	wantNotStepped(t, "it would cut what is committed", cuts, deliver(0))
	falls := withNet(ledThree(), appendMsg(2, 1, 5, 1, 1, 0, logOf(5, 5)...))
	falls.Nodes[1].Log[0].Term = 4
	falls.Net[0].Before = 4
	falls.Net[0].Entries[0].Term = 3
	wantNotStepped(t, "terms would fall", falls, deliver(0))
	_, did, ok := impl.PlayCluster(3, []impl.ClusterStep{deliver(0)})
	if !ok || len(did) != 1 || did[0] {
		t.Error("a message of no net is delivered")
	}
}

// A message goes ahead of its answer, which takes its room.
func TestRoomForTheAnswerOfAMessage(t *testing.T) {
	for many := 57; many <= 60; many++ {
		for _, k := range []int{0, many / 2, many - 1} {
			net := netOf(many)
			net[k] = askMsg(1, 2, 100, 3, 1)
			c := withNet(newCluster(3), net...)
			rest := append(slices.Delete(slices.Clone(net), k, k+1), voteMsg(2, 1, 100, true))
			what := fmt.Sprintf("%d of %d", k, many)
			wantStepped(t, what, c, deliver(k), withNet(atNode(c, followingNode(2, 3, 100, 1, nil, 0)), rest...))
			if len(rest) != many {
				t.Errorf("%s: the answer has no room", what)
			}
		}
	}
}

func TestStepLose(t *testing.T) {
	net := netOf(60)
	c := withLeads(withNet(ledThree(), net...), 3)
	for k := range 60 {
		wantStepped(t, fmt.Sprint("lose ", k), c, lose(k), withNet(c, slices.Delete(slices.Clone(net), k, k+1)...))
	}
	one := withNet(ledThree(), toldMsg(2, 0, 5, 4, true))
	wantStepped(t, "the only one", one, lose(0), ledThree())
}

func TestStepDouble(t *testing.T) {
	for _, many := range []int{1, 2, 30, 58, 59} {
		net := netOf(many)
		c := withLeads(withNet(ledThree(), net...), 3)
		for k := range many {
			wantStepped(t, fmt.Sprintf("double %d of %d", k, many), c, double(k), withNet(c, append(slices.Clone(net), net[k])...))
		}
	}
	full := withNet(ledThree(), netOf(60)...)
	for k := range 60 {
		wantNotStepped(t, fmt.Sprintf("double %d of 60", k), full, double(k))
	}
}

func TestStepPropose(t *testing.T) {
	c := withNet(ledThree(), netOf(60)...)
	log := logOf(1, 2, 5)
	wantStepped(t, "one that leads", c, proposeTo(0, "new"), atNode(c, leadingNode(0, 3, 5, logWith(log, 5, "new"), 1, 4, 1, 0)))
	wantStepped(t, "no data", c, proposeTo(0, ""), atNode(c, leadingNode(0, 3, 5, logWith(log, 5, ""), 1, 4, 1, 0)))
	wantStepped(t, "100 bytes", c, proposeTo(0, sized(100)), atNode(c, leadingNode(0, 3, 5, logWith(log, 5, sized(100)), 1, 4, 1, 0)))
	wantNotStepped(t, "101 bytes", c, proposeTo(0, sized(101)))
	wantNotStepped(t, "one that follows", c, proposeTo(1, "new"))
	wantNotStepped(t, "the last one, that follows", c, proposeTo(2, "new"))
	wantNotStepped(t, "one that asks", clusterWith(3, askingNode(1, 3, 2, nil, 0, 1)), proposeTo(1, "new"))
	for many := 58; many <= 60; many++ {
		log := entriesOf(many, 2, 3)
		c := clusterWith(2, leadingNode(1, 2, 2, log, 0, 0, many))
		if many == 60 {
			wantNotStepped(t, "a full log", c, proposeTo(1, "new"))
			continue
		}
		wantStepped(t, fmt.Sprint("a log of ", many), c, proposeTo(1, "new"), clusterWith(2, leadingNode(1, 2, 2, logWith(log, 2, "new"), 0, 0, many+1)))
	}
	alone := clusterWith(1, leadingNode(0, 1, 5, logOf(4), 0, 1))
	wantStepped(t, "one alone commits at once", alone, proposeTo(0, "new"), clusterWith(1, leadingNode(0, 1, 5, logWith(logOf(4), 5, "new"), 2, 2)))
}

func TestStepSend(t *testing.T) {
	log := logOf(1, 2, 5)
	c := withNet(ledThree(), toldMsg(2, 1, 3, 1, true))
	wantStepped(t, "to 1", c, send(0, 1, 5), behindNet(c, appendMsg(0, 1, 5, 1, 1, 1, log[1:]...)))
	wantStepped(t, "to 2", c, send(0, 2, 2), behindNet(c, appendMsg(0, 2, 5, 0, 0, 1, log[:2]...)))
	wantStepped(t, "no entries", c, send(0, 1, 0), behindNet(c, appendMsg(0, 1, 5, 1, 1, 1)))
	for _, to := range []int{math.MinInt, -2, -1, 0, 3, 4, 7, math.MaxInt} {
		wantNotStepped(t, fmt.Sprint("to ", to), c, send(0, to, 5))
	}
	for _, many := range []int{math.MinInt, -2, -1, 61, 62, math.MaxInt} {
		wantNotStepped(t, fmt.Sprint("so many: ", many), c, send(0, 1, many))
	}
	for _, many := range []int{1, 2, 3, 59, 60} {
		wantStepped(t, fmt.Sprint("so many: ", many), c, send(0, 2, many), behindNet(c, appendMsg(0, 2, 5, 0, 0, 1, log[:min(many, 3)]...)))
	}
	for _, node := range []int{1, 2} {
		wantNotStepped(t, "one that follows", c, send(node, 0, 5))
	}
	wantNotStepped(t, "one that asks", clusterWith(3, askingNode(1, 3, 2, nil, 0, 1)), send(1, 0, 5))
	wantNotStepped(t, "one alone", clusterWith(1, leadingNode(0, 1, 2, nil, 0, 0)), send(0, 0, 5))
	long := entriesOf(60, 5, 3)
	whole := clusterWith(2, leadingNode(0, 2, 5, long, 7, 60, 0))
	wantStepped(t, "a whole log", whole, send(0, 1, 60), withNet(whole, appendMsg(0, 1, 5, 0, 0, 7, long...)))
}

// To a full Net a message is sent and lost: the step is done, and nothing is another.
func TestRoomForWhatIsSent(t *testing.T) {
	for many := 58; many <= 60; many++ {
		c := withNet(ledThree(), netOf(many)...)
		want := c
		if many < 60 {
			want = behindNet(c, appendMsg(0, 1, 5, 1, 1, 1, logOf(1, 2, 5)[1:]...))
		}
		wantStepped(t, fmt.Sprint("a net of ", many), c, send(0, 1, 5), want)
	}
	wantNotStepped(t, "a full net, and to nobody", withNet(ledThree(), netOf(60)...), send(0, 3, 5))
}

// anySteps are steps of all kinds with all numbers that matter to a cluster.
func anySteps(c impl.Cluster) []impl.ClusterStep {
	var l []impl.ClusterStep
	for node := -1; node <= len(c.Nodes); node++ {
		l = append(l, timeoutOf(node), crashOf(node), proposeTo(node, "any"), proposeTo(node, sized(100)), proposeTo(node, sized(101)))
		for to := -1; to <= len(c.Nodes); to++ {
			for _, many := range []int{-1, 0, 1, 2, 60, 61} {
				l = append(l, send(node, to, many))
			}
		}
	}
	for k := -1; k <= len(c.Net); k++ {
		l = append(l, deliver(k), lose(k), double(k))
	}
	return append(l, impl.ClusterStep{}, impl.ClusterStep{Kind: 8})
}

func TestAnyStepsOfManyClusters(t *testing.T) {
	done, refused := 0, 0
	for name, c := range manyClusters() {
		checkAsked(t, name, c)
		for _, s := range anySteps(c) {
			next, ok := checkClusterStep(t, fmt.Sprint(name, ": ", s.Kind, " ", s.Node, " ", s.K), c, s)
			if !ok {
				refused++
				continue
			}
			done++
			checkAsked(t, name, next)
		}
	}
	if done < 2000 || refused < 5000 {
		t.Errorf("%d steps are done, %d are not: too few", done, refused)
	}
}

// dealtCluster is any good cluster.
func (d *dealing) dealtCluster() impl.Cluster {
	first := d.dealtNode()
	c := newCluster(first.Peers)
	for id := range c.Nodes {
		n := d.dealtNode()
		for n.Peers != first.Peers || n.Id != id {
			n = d.dealtNode()
		}
		c.Nodes[id] = n
	}
	if first.Peers > 1 {
		many := []int{0, 3, 10, 58, 59, 60}[d.below(6)]
		for len(c.Net) < many {
			m := d.dealtMsg(c.Nodes[d.below(len(c.Nodes))])
			if isMsgByHand(m, first.Peers) {
				c.Net = append(c.Net, m)
			}
		}
	}
	return withLeads(c, []int{0, 1, 5, 998, 999, 1000}[d.below(6)])
}

// Steps of clusters that no play makes, one behind the other.
func TestStepsOfAnyClusters(t *testing.T) {
	done, refused, leads := 0, 0, 0
	for seed := range 150 {
		d := dealingOf(seed + 31)
		c := d.dealtCluster()
		what := fmt.Sprint("seed ", seed)
		checkGoodCluster(t, what, c, true)
		for range 25 {
			l := anySteps(c)
			s := l[d.below(len(l))]
			if len(c.Net) > 0 && d.below(2) == 0 {
				s = deliver(d.below(len(c.Net)))
			}
			next, ok := checkClusterStep(t, what, c, s)
			if !ok {
				refused++
				continue
			}
			checkAsked(t, what, next)
			done++
			leads += len(next.Leads) - len(c.Leads)
			c = next
		}
	}
	if done < 1200 || refused < 700 || leads < 15 {
		t.Errorf("%d steps are done, %d are not, %d lead: too few", done, refused, leads)
	}
}
