package tests

import (
	"fmt"
	"math"
	"slices"
	"testing"

	"loop.example/g00224/impl"
)

func TestNumbersOfClusters(t *testing.T) {
	if impl.MaxNet != 60 || impl.MaxClusterSteps != 200 {
		t.Error("the limits are others")
	}
	kinds := []int{impl.DoTimeout, impl.DoDeliver, impl.DoLose, impl.DoDouble, impl.DoPropose, impl.DoSend, impl.DoCrash}
	if !slices.Equal(kinds, []int{1, 2, 3, 4, 5, 6, 7}) {
		t.Errorf("the kinds are %v", kinds)
	}
}

func TestNewCluster(t *testing.T) {
	for _, peers := range append(edgesOf(1, 7), 3, 4, 5, -7, -100, 100) {
		got, ok := impl.NewCluster(peers)
		what := fmt.Sprintf("NewCluster(%d)", peers)
		if !isWithin(peers, 1, 7) {
			wantNoCluster(t, what, got, ok)
			continue
		}
		wantCluster(t, what, got, ok, newCluster(peers))
		for id, n := range got.Nodes {
			want, _ := impl.NewNode(id, peers)
			wantNode(t, what, n, true, want)
		}
		if len(got.Net) != 0 || len(got.Leads) != 0 {
			t.Errorf("%s: something else is there: %s", what, shown(got))
		}
	}
}

func TestHowManyNodesOfACluster(t *testing.T) {
	checkGoodCluster(t, "the zero one", impl.Cluster{}, false)
	checkGoodCluster(t, "empty lists", impl.Cluster{Nodes: []impl.RaftNode{}, Net: []impl.RaftMsg{}, Leads: []impl.Lead{}}, false)
	for peers := range 10 {
		checkGoodCluster(t, fmt.Sprint("new nodes ", peers), newCluster(peers), isWithin(peers, 1, 7))
		// So many nodes as there may be, but one too many, and each good by itself.
		c := newCluster(peers)
		for id := range c.Nodes {
			c.Nodes[id].Peers = min(peers, 7)
		}
		checkGoodCluster(t, fmt.Sprint("nodes of at most seven ", peers), c, isWithin(peers, 1, 7))
	}
	checkGoodCluster(t, "very many", newCluster(3000), false)
	checkGoodCluster(t, "nothing but a message", impl.Cluster{Net: netOf(1)}, false)
	checkGoodCluster(t, "nothing but a lead", impl.Cluster{Leads: []impl.Lead{{Term: 1}}}, false)
}

func TestClustersOfNodesThatAreGood(t *testing.T) {
	for name, n := range manyNodes() {
		checkGoodCluster(t, name, clusterWith(n.Peers, n), true)
	}
}

func TestClustersOfANodeThatIsNotGood(t *testing.T) {
	for name, n := range badNodes() {
		for place := range 3 {
			c := changedCluster(newCluster(3), func(c *impl.Cluster) { c.Nodes[place] = n })
			checkGoodCluster(t, fmt.Sprint(name, " at ", place), c, false)
		}
		if isWithin(n.Peers, 1, 7) && isWithin(n.Id, 0, n.Peers-1) {
			checkGoodCluster(t, name+" in its place", clusterWith(n.Peers, n), false)
		}
	}
	for peers := 1; peers <= 7; peers++ {
		for place := range peers {
			set := func(x int) impl.Cluster {
				return changedCluster(newCluster(peers), func(c *impl.Cluster) { c.Nodes[place].Term = x })
			}
			for _, term := range edgesOf(0, 1000) {
				checkGoodCluster(t, fmt.Sprint("Term ", term, " of ", place), set(term), isWithin(term, 0, 1000))
			}
		}
	}
}

func TestPlacesOfTheNodesOfACluster(t *testing.T) {
	for peers := 1; peers <= 7; peers++ {
		for place := range peers {
			for id := -1; id <= 8; id++ {
				c := changedCluster(newCluster(peers), func(c *impl.Cluster) { c.Nodes[place].Id = id })
				checkGoodCluster(t, fmt.Sprintf("Id %d at %d of %d", id, place, peers), c, id == place)
			}
			other := changedCluster(newCluster(peers), func(c *impl.Cluster) {
				c.Nodes[0], c.Nodes[place] = c.Nodes[place], c.Nodes[0]
			})
			checkGoodCluster(t, fmt.Sprintf("0 and %d of %d have changed places", place, peers), other, place == 0)
		}
	}
}

func TestPeersOfTheNodesOfACluster(t *testing.T) {
	for many := 1; many <= 7; many++ {
		for peers := 0; peers <= 8; peers++ {
			all := changedCluster(newCluster(many), func(c *impl.Cluster) {
				for id := range c.Nodes {
					c.Nodes[id].Peers = peers
				}
			})
			checkGoodCluster(t, fmt.Sprintf("%d nodes, all with Peers %d", many, peers), all, peers == many)
			for place := range many {
				one := changedCluster(newCluster(many), func(c *impl.Cluster) { c.Nodes[place].Peers = peers })
				checkGoodCluster(t, fmt.Sprintf("%d nodes, Peers %d at %d", many, peers, place), one, peers == many)
			}
		}
	}
}

func TestHowManyMessagesOfACluster(t *testing.T) {
	for _, many := range []int{0, 1, 2, 59, 60, 61, 62, 3000} {
		for peers := 2; peers <= 7; peers++ {
			alike := slices.Repeat([]impl.RaftMsg{voteMsg(0, 1, 5, true)}, many)
			checkGoodCluster(t, fmt.Sprint("alike ", many), withNet(newCluster(peers), alike...), many <= 60)
			if many <= 62 {
				checkGoodCluster(t, fmt.Sprint("many kinds ", many), withNet(newCluster(peers), netOf(many)...), many <= 60)
			}
		}
	}
	// Nobody is there to whom one alone might send.
	checkGoodCluster(t, "one alone", withNet(newCluster(1), voteMsg(0, 1, 5, true)), false)
	checkGoodCluster(t, "one alone to itself", withNet(newCluster(1), voteMsg(0, 0, 5, true)), false)
}

func TestMessagesOfAClusterThatAreNotGood(t *testing.T) {
	for _, k := range kindsOfMsg() {
		for _, m := range []impl.RaftMsg{k.bare, k.full} {
			for what, change := range map[string]func(m *impl.RaftMsg){
				"as it is":         func(m *impl.RaftMsg) {},
				"no kind":          func(m *impl.RaftMsg) { m.Kind = 0 },
				"beyond the kinds": func(m *impl.RaftMsg) { m.Kind = 5 },
				"to itself":        func(m *impl.RaftMsg) { m.To = m.From },
				"to the last":      func(m *impl.RaftMsg) { m.To = 2 },
				"to one more":      func(m *impl.RaftMsg) { m.To = 3 },
				"from the last":    func(m *impl.RaftMsg) { m.From = 2 },
				"from one more":    func(m *impl.RaftMsg) { m.From = 3 },
				"from below":       func(m *impl.RaftMsg) { m.From = -1 },
				"to below":         func(m *impl.RaftMsg) { m.To = -1 },
				"Term 0":           func(m *impl.RaftMsg) { m.Term = 0 },
				"Term 1000":        func(m *impl.RaftMsg) { m.Term = 1000 },
				"Term 1001":        func(m *impl.RaftMsg) { m.Term = 1001 },
				"Index 61":         func(m *impl.RaftMsg) { m.Index = 61 },
				"Before 1001":      func(m *impl.RaftMsg) { m.Before = 1001 },
				"Commit 61":        func(m *impl.RaftMsg) { m.Commit = 61 },
			} {
				x := changedMsg(m, change)
				for at := range 4 {
					c := withNet(newCluster(3), slices.Insert(netOf(3), at, x)...)
					checkGoodCluster(t, fmt.Sprint(k.name, " ", what, " at ", at), c, isMsgByHand(x, 3))
				}
			}
		}
	}
	last := withNet(newCluster(3), netOf(60)...)
	last.Net[59].To = 7
	checkGoodCluster(t, "the last of sixty", last, false)
}

// A message may be good for more peers than there are.
func TestMessagesAreGoodForSoManyAsThereAre(t *testing.T) {
	for peers := 1; peers <= 7; peers++ {
		for from := range 8 {
			for to := range 8 {
				c := withNet(newCluster(peers), toldMsg(from, to, 3, 1, true))
				checkGoodCluster(t, fmt.Sprintf("from %d to %d of %d", from, to, peers), c, from != to && from < peers && to < peers)
			}
		}
	}
}

func TestHowManyLeadsOfACluster(t *testing.T) {
	for _, many := range []int{0, 1, 2, 999, 1000, 1001, 1002, 9000} {
		for _, peers := range []int{1, 3, 7} {
			checkGoodCluster(t, fmt.Sprint("Leads ", many), withLeads(newCluster(peers), many), many <= 1000)
		}
	}
}

func TestEachLeadOfACluster(t *testing.T) {
	for peers := 1; peers <= 7; peers++ {
		for _, many := range []int{1, 3, 1000} {
			for _, at := range []int{0, many / 2, many - 1} {
				set := func(change func(x *impl.Lead)) impl.Cluster {
					return changedCluster(withLeads(newCluster(peers), many), func(c *impl.Cluster) { change(&c.Leads[at]) })
				}
				for _, term := range edgesOf(1, 1000) {
					c := set(func(x *impl.Lead) { x.Term = term })
					checkGoodCluster(t, fmt.Sprintf("Term %d of Lead %d", term, at), c, isWithin(term, 1, 1000))
				}
				for _, node := range edgesOf(0, peers-1) {
					c := set(func(x *impl.Lead) { x.Node = node })
					checkGoodCluster(t, fmt.Sprintf("Node %d of Lead %d among %d", node, at, peers), c, isWithin(node, 0, peers-1))
				}
			}
		}
	}
}

// A cluster that no play makes may be good all the same: nothing is said of how nodes, messages and Leads go together.
func TestClustersThatNoPlayMakes(t *testing.T) {
	checkGoodCluster(t, "two lead in one Term", clusterWith(3, leadingNode(0, 3, 4, nil, 0, 0, 0, 0), leadingNode(2, 3, 4, nil, 0, 0, 0, 0)), true)
	checkGoodCluster(t, "unlike entries committed", clusterWith(2, followingNode(0, 2, 4, -1, logOf(1), 1), followingNode(1, 2, 4, -1, logOf(2), 1)), true)
	twice := newCluster(2)
	twice.Leads = []impl.Lead{{Term: 9, Node: 1}, {Term: 2, Node: 0}, {Term: 2, Node: 1}, {Term: 2, Node: 1}}
	checkGoodCluster(t, "Leads alike, falling", twice, true)
	checkGoodCluster(t, "a message beyond all terms that are there", withNet(newCluster(2), voteMsg(0, 1, 1000, true)), true)
}

// manyClusters are good clusters of many kinds, the edges among them.
func manyClusters() map[string]impl.Cluster {
	full := entriesOf(60, 9, 2)
	l := map[string]impl.Cluster{
		"one, new":         newCluster(1),
		"three, new":       newCluster(3),
		"seven, new":       newCluster(7),
		"new, not nil":     {Nodes: newCluster(2).Nodes, Net: []impl.RaftMsg{}, Leads: []impl.Lead{}},
		"one that leads":   withLeads(clusterWith(1, leadingNode(0, 1, 5, logOf(1, 2, 5), 3, 3)), 2),
		"one that is full": clusterWith(1, leadingNode(0, 1, 9, full, 60, 60)),
		"two, a full net":  withNet(newCluster(2), netOf(60)...),
		"two, nearly full": withNet(clusterWith(2, leadingNode(0, 2, 61, logOf(1, 61), 0, 2, 0)), netOf(59)...),
		"many leads":       withLeads(clusterWith(3, askingNode(1, 3, 7, logOf(3), 0, 1)), 999),
		"all leads":        withLeads(withNet(clusterWith(3, askingNode(1, 3, 7, logOf(3), 0, 1)), voteMsg(0, 1, 7, true)), 1000),
		"the last term": withNet(clusterWith(3, leadingNode(1, 3, 1000, logOf(999, 1000), 0, 2, 2, 0), followingNode(0, 3, 999, -1, nil, 0)),
			appendMsg(1, 0, 1000, 0, 0, 0, logOf(999, 1000)...), askMsg(0, 2, 999, 0, 0)),
		"all lead": clusterWith(3, leadingNode(0, 3, 5, logOf(1, 5), 2, 2, 2, 0), leadingNode(1, 3, 4, logOf(1, 4), 1, 1, 2, 2), leadingNode(2, 3, 5, nil, 0, 0, 0, 0)),
		"one is led": withNet(clusterWith(3, leadingNode(0, 3, 5, logOf(1, 2, 5), 1, 3, 1, 0), followingNode(1, 3, 5, 0, logOf(1, 2), 1), followingNode(2, 3, 4, -1, logOf(1, 3, 3), 1)),
			appendMsg(0, 1, 5, 2, 2, 1, logOf(5)...), toldMsg(1, 0, 5, 2, true), appendMsg(0, 2, 5, 0, 0, 1, logOf(1, 2, 5)...), toldMsg(1, 0, 5, 9, true), askMsg(2, 1, 6, 3, 3)),
		"one asks": withNet(clusterWith(5, askingNode(3, 5, 6, logOf(1, 2), 0, 1, 3), followingNode(1, 5, 6, 3, logOf(1), 0), leadingNode(4, 5, 5, logOf(1, 2, 5), 2, 2, 0, 0, 2, 3)),
			askMsg(3, 0, 6, 2, 2), askMsg(3, 4, 6, 2, 2), voteMsg(1, 3, 6, true), voteMsg(0, 3, 6, true), voteMsg(2, 3, 6, false)),
	}
	for name, n := range manyNodes() {
		c := clusterWith(n.Peers, n)
		if n.Peers > 1 {
			c.Net = msgsTo(n)[:min(len(msgsTo(n)), 20)]
			c.Net = slices.DeleteFunc(slices.Clone(c.Net), func(m impl.RaftMsg) bool { return !isMsgByHand(m, n.Peers) })
		}
		c.Leads = []impl.Lead{{Term: 1, Node: n.Peers - 1}}
		l["with one: "+name] = c
	}
	return l
}

// badClusters are no good ones, by one thing each.
func badClusters() map[string]impl.Cluster {
	good := manyClusters()["one is led"]
	change := func(f func(c *impl.Cluster)) impl.Cluster { return changedCluster(good, f) }
	l := map[string]impl.Cluster{
		"zero":                   {},
		"no nodes":               change(func(c *impl.Cluster) { c.Nodes = nil }),
		"one too many":           newCluster(8),
		"one too few":            change(func(c *impl.Cluster) { c.Nodes = c.Nodes[:2] }),
		"one more than Peers":    change(func(c *impl.Cluster) { c.Nodes = append(c.Nodes, followingNode(2, 3, 0, -1, nil, 0)) }),
		"changed places":         change(func(c *impl.Cluster) { c.Nodes[1], c.Nodes[2] = c.Nodes[2], c.Nodes[1] }),
		"Peers of another":       change(func(c *impl.Cluster) { c.Nodes[2].Peers = 4 }),
		"Id below":               change(func(c *impl.Cluster) { c.Nodes[1].Id = -1 }),
		"a message to one more":  change(func(c *impl.Cluster) { c.Net[0].To = 3 }),
		"a message of far away":  change(func(c *impl.Cluster) { c.Net[0].To = math.MaxInt }),
		"a message of no kind":   change(func(c *impl.Cluster) { c.Net[4].Kind = 0 }),
		"a message too many":     withNet(newCluster(3), netOf(61)...),
		"very many messages":     withNet(newCluster(3), slices.Repeat([]impl.RaftMsg{voteMsg(0, 1, 1, true)}, 5000)...),
		"a lead too many":        withLeads(newCluster(3), 1001),
		"a lead in Term 0":       change(func(c *impl.Cluster) { c.Leads = []impl.Lead{{Term: 1}, {Term: 0}} }),
		"a lead in Term 1001":    change(func(c *impl.Cluster) { c.Leads = []impl.Lead{{Term: 1001}} }),
		"a lead of nobody":       change(func(c *impl.Cluster) { c.Leads = []impl.Lead{{Term: 1, Node: 3}} }),
		"a lead of one below":    change(func(c *impl.Cluster) { c.Leads = []impl.Lead{{Term: 1, Node: -1}} }),
		"a node with wrong data": change(func(c *impl.Cluster) { c.Nodes[2].Log[0].Data = sized(101) }),
	}
	for name, n := range badNodes() {
		l["with one: "+name] = change(func(c *impl.Cluster) { c.Nodes[1] = n })
	}
	return l
}

func TestManyClustersAreGood(t *testing.T) {
	for name, c := range manyClusters() {
		checkGoodCluster(t, name, c, true)
	}
	for name, c := range badClusters() {
		checkGoodCluster(t, name, c, false)
	}
}
