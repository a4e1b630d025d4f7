package tests

import (
	"fmt"
	"math"
	"slices"
	"testing"

	"loop.example/g00224/impl"
)

func wantPlayed(t *testing.T, what string, peers int, l []impl.ClusterStep, want impl.Cluster, did ...bool) {
	t.Helper()
	got, does, ok := impl.PlayCluster(peers, l)
	wantCluster(t, what, got, ok, want)
	if !slices.Equal(does, did) {
		t.Errorf("%s: done are %v, want %v", what, does, did)
	}
	checkPlay(t, what, peers, l)
}

func wantNotPlayed(t *testing.T, what string, peers int, l []impl.ClusterStep) {
	t.Helper()
	got, did, ok := impl.PlayCluster(peers, l)
	wantNoCluster(t, what, got, ok)
	if len(did) != 0 {
		t.Errorf("%s: done are %v", what, did)
	}
	checkPlay(t, what, peers, l)
}

func TestPlayOfNoSteps(t *testing.T) {
	for peers := 1; peers <= 7; peers++ {
		wantPlayed(t, "nil", peers, nil, newCluster(peers))
		wantPlayed(t, "empty", peers, []impl.ClusterStep{}, newCluster(peers))
	}
}

func TestPeersOfAPlay(t *testing.T) {
	for _, peers := range append(edgesOf(1, 7), 3, -3, 100) {
		for _, l := range [][]impl.ClusterStep{nil, {timeoutOf(0)}, {crashOf(2), {}}} {
			if !isWithin(peers, 1, 7) {
				wantNotPlayed(t, fmt.Sprint("peers ", peers), peers, l)
				continue
			}
			checkPlay(t, fmt.Sprint("peers ", peers), peers, l)
			if _, did, ok := impl.PlayCluster(peers, l); !ok || len(did) != len(l) {
				t.Errorf("peers %d: %v %v", peers, did, ok)
			}
		}
	}
}

func TestHowManyStepsOfAPlay(t *testing.T) {
	for many := 198; many <= 202; many++ {
		steps := slices.Repeat([]impl.ClusterStep{timeoutOf(1)}, many)
		if many > 200 {
			wantNotPlayed(t, fmt.Sprint("steps ", many), 3, steps)
			wantNotPlayed(t, fmt.Sprint("steps of no use ", many), 3, make([]impl.ClusterStep, many))
			continue
		}
		c, did, ok := impl.PlayCluster(3, steps)
		if !ok || c.Nodes[1].Term != many || len(c.Net) != 60 || !slices.Equal(did, slices.Repeat([]bool{true}, many)) {
			t.Errorf("steps %d: %s %v", many, shown(c.Nodes), ok)
		}
		checkPlay(t, fmt.Sprint("steps ", many), 3, steps)
		wantPlayed(t, fmt.Sprint("steps of no use ", many), 3, make([]impl.ClusterStep, many), newCluster(3), make([]bool, many)...)
	}
	wantNotPlayed(t, "very many steps", 3, make([]impl.ClusterStep, 20000))
	wantNotPlayed(t, "one step too many and no peers", 0, make([]impl.ClusterStep, 201))
}

// A step that can not be done changes nothing, and what follows is done as if it were not there.
func TestStepsThatCanNotBeDoneAmongOthers(t *testing.T) {
	good := []impl.ClusterStep{timeoutOf(0), deliver(0), deliver(1), proposeTo(0, "x"), send(0, 1, 3), double(1), deliver(1), lose(0), deliver(1), crashOf(0)}
	want, does, ok := impl.PlayCluster(3, good)
	if !ok || slices.Contains(does, false) {
		t.Fatalf("not all is done: %v %v", does, ok)
	}
	bad := []impl.ClusterStep{{}, {Kind: 8}, {Kind: -1}, timeoutOf(3), timeoutOf(-1), deliver(60), deliver(-1), lose(59), double(-1), proposeTo(2, "x"), proposeTo(0, sized(101)), send(1, 0, 1), send(0, 0, 1), crashOf(7), crashOf(math.MinInt)}
	for at := range len(good) + 1 {
		for i, s := range bad {
			l := slices.Insert(slices.Clone(good), at, s)
			did := slices.Insert(slices.Clone(does), at, false)
			wantPlayed(t, fmt.Sprintf("step %d at %d", i, at), 3, l, want, did...)
		}
		l := slices.Insert(slices.Clone(good), at, bad...)
		did := slices.Insert(slices.Clone(does), at, make([]bool, len(bad))...)
		wantPlayed(t, fmt.Sprintf("all at %d", at), 3, l, want, did...)
	}
}

// A play is its steps, one behind the other.
func TestAPlayIsItsSteps(t *testing.T) {
	steps := []impl.ClusterStep{
		timeoutOf(0), deliver(0), timeoutOf(1), deliver(0), deliver(9), deliver(0), proposeTo(0, "a"), send(0, 2, 1), proposeTo(1, "b"), send(1, 2, 60), double(0),
		deliver(0), deliver(0), crashOf(2), deliver(0), lose(0), timeoutOf(2), deliver(0), deliver(0), deliver(0), proposeTo(2, "c"), send(2, 0, 2), send(2, 1, 2), deliver(0), deliver(0),
	}
	for many := range len(steps) + 1 {
		checkPlay(t, fmt.Sprint("the first ", many), 3, steps[:many])
		c := newCluster(3)
		for _, s := range steps[:many] {
			if next, ok := impl.StepCluster(c, s); ok {
				c = next
			}
		}
		got, _, ok := impl.PlayCluster(3, steps[:many])
		wantCluster(t, fmt.Sprint("the first ", many), got, ok, c)
		wantAgreed(t, fmt.Sprint("the first ", many), c)
	}
}

func TestLeadersOf(t *testing.T) {
	leads := func(id int, term int) impl.RaftNode { return leadingNode(id, 5, term, nil, 0, 0, 0, 0, 0, 0) }
	for name, x := range map[string]struct {
		c    impl.Cluster
		want []impl.Lead
	}{
		"nobody":             {c: newCluster(5)},
		"nobody of one":      {c: newCluster(1)},
		"one alone":          {c: clusterWith(1, leadingNode(0, 1, 4, nil, 0, 0)), want: []impl.Lead{{Term: 4}}},
		"one asks":           {c: clusterWith(5, askingNode(2, 5, 3, nil, 0, 2))},
		"the first":          {c: clusterWith(5, leads(0, 1)), want: []impl.Lead{{Term: 1, Node: 0}}},
		"the last":           {c: clusterWith(5, leads(4, 1000)), want: []impl.Lead{{Term: 1000, Node: 4}}},
		"rising":             {c: clusterWith(5, leads(0, 1), leads(1, 2), leads(4, 3)), want: []impl.Lead{{Term: 1, Node: 0}, {Term: 2, Node: 1}, {Term: 3, Node: 4}}},
		"falling":            {c: clusterWith(5, leads(0, 30), leads(1, 20), leads(4, 3)), want: []impl.Lead{{Term: 3, Node: 4}, {Term: 20, Node: 1}, {Term: 30, Node: 0}}},
		"of one Term":        {c: clusterWith(5, leads(4, 7), leads(2, 7), leads(3, 7)), want: []impl.Lead{{Term: 7, Node: 2}, {Term: 7, Node: 3}, {Term: 7, Node: 4}}},
		"of one and others":  {c: clusterWith(5, leads(0, 7), leads(1, 2), leads(2, 9), leads(3, 2), leads(4, 7)), want: []impl.Lead{{Term: 2, Node: 1}, {Term: 2, Node: 3}, {Term: 7, Node: 0}, {Term: 7, Node: 4}, {Term: 9, Node: 2}}},
		"Leads do not count": {c: withLeads(clusterWith(5, leads(3, 6)), 9), want: []impl.Lead{{Term: 6, Node: 3}}},
	} {
		if got, ok := impl.LeadersOf(x.c); !ok || !slices.Equal(got, x.want) {
			t.Errorf("%s: %v %v, want %v", name, got, ok, x.want)
		}
		checkAsked(t, name, x.c)
	}
}

// Every way in which seven nodes lead in few terms or do not.
func TestLeadersOfAllKinds(t *testing.T) {
	for ways := range 2187 {
		c := newCluster(7)
		for id := range 7 {
			if term := ways % 3; term > 0 {
				c.Nodes[id] = leadingNode(id, 7, term, nil, 0, 0, 0, 0, 0, 0, 0, 0)
			}
			ways /= 3
		}
		checkAsked(t, "a way", c)
	}
}

func TestCommonLog(t *testing.T) {
	a, b := logOf(1, 2, 2, 4), logOf(1, 2, 3, 4)
	other := slices.Clone(a)
	other[1].Data = "another"
	follows := func(id int, peers int, log []impl.Entry, commit int) impl.RaftNode {
		return followingNode(id, peers, 4, -1, log, commit)
	}
	three := func(x impl.RaftNode, y impl.RaftNode, z impl.RaftNode) impl.Cluster { return clusterWith(3, x, y, z) }
	for name, x := range map[string]struct {
		c    impl.Cluster
		want []impl.Entry
	}{
		"new":                        {c: newCluster(3)},
		"one, nothing committed":     {c: clusterWith(1, follows(0, 1, a, 0))},
		"one, some committed":        {c: clusterWith(1, follows(0, 1, a, 3)), want: a[:3]},
		"one, all committed":         {c: clusterWith(1, leadingNode(0, 1, 4, a, 4, 4)), want: a},
		"the first has nothing":      {c: three(follows(0, 3, a, 0), follows(1, 3, a, 4), follows(2, 3, a, 4))},
		"the last has nothing":       {c: three(follows(0, 3, a, 4), follows(1, 3, a, 4), follows(2, 3, a, 0))},
		"one has no log":             {c: three(follows(0, 3, a, 4), follows(1, 3, nil, 0), follows(2, 3, a, 4))},
		"all the same":               {c: three(follows(0, 3, a, 4), follows(1, 3, a, 4), follows(2, 3, a, 4)), want: a},
		"all the same, logs longer":  {c: three(follows(0, 3, a, 2), follows(1, 3, b, 2), follows(2, 3, a, 2)), want: a[:2]},
		"the first is longer":        {c: three(follows(0, 3, a, 4), follows(1, 3, a, 2), follows(2, 3, a, 3)), want: a[:2]},
		"the first is the shortest":  {c: three(follows(0, 3, a, 1), follows(1, 3, a, 2), follows(2, 3, a, 3)), want: a[:1]},
		"the last is the shortest":   {c: three(follows(0, 3, a, 4), follows(1, 3, a, 3), follows(2, 3, a[:2], 2)), want: a[:2]},
		"unlike by a term":           {c: three(follows(0, 3, a, 4), follows(1, 3, b, 4), follows(2, 3, a, 4)), want: a[:2]},
		"unlike by data":             {c: three(follows(0, 3, a, 4), follows(1, 3, a, 4), follows(2, 3, other, 4)), want: a[:1]},
		"unlike in two ways":         {c: three(follows(0, 3, a, 4), follows(1, 3, b, 4), follows(2, 3, other, 3)), want: a[:1]},
		"unlike from the first on":   {c: three(follows(0, 3, a, 4), follows(1, 3, a, 4), follows(2, 3, logOf(2), 1))},
		"the same again behind":      {c: clusterWith(2, follows(0, 2, a, 4), follows(1, 2, b, 4)), want: a[:2]},
		"unlike only when committed": {c: clusterWith(2, follows(0, 2, a, 2), follows(1, 2, b, 2)), want: a[:2]},
		"sixty":                      {c: clusterWith(2, follows(0, 2, entriesOf(60, 4, 9), 60), follows(1, 2, entriesOf(60, 4, 9), 60)), want: entriesOf(60, 4, 9)},
	} {
		if got, ok := impl.CommonLog(x.c); !ok || !slices.Equal(got, x.want) {
			t.Errorf("%s: %s %v, want %s", name, shown(got), ok, shown(x.want))
		}
		checkAsked(t, name, x.c)
	}
}

// All small logs and Commits of two and three nodes.
func TestCommonLogOfAllSmallOnes(t *testing.T) {
	var nodes []impl.RaftNode
	for _, log := range smallLogs(2, 2) {
		for commit := range len(log) + 1 {
			nodes = append(nodes, followingNode(0, 3, 2, -1, log, commit))
		}
	}
	at := func(id int, peers int, n impl.RaftNode) impl.RaftNode {
		n.Id, n.Peers = id, peers
		return n
	}
	for _, x := range nodes {
		for _, y := range nodes {
			checkAsked(t, "two", clusterWith(2, at(0, 2, x), at(1, 2, y)))
			for _, z := range nodes {
				checkAsked(t, "three", clusterWith(3, at(0, 3, x), at(1, 3, y), at(2, 3, z)))
			}
		}
	}
}

func TestHighestTerm(t *testing.T) {
	for peers := 1; peers <= 7; peers++ {
		for at := range peers {
			for _, term := range []int{0, 1, 5, 999, 1000} {
				c := newCluster(peers)
				for id := range c.Nodes {
					c.Nodes[id].Term = term / (2 + id)
				}
				c.Nodes[at].Term = term
				if got, ok := impl.HighestTerm(c); !ok || got != term {
					t.Errorf("%d at %d of %d: %d %v", term, at, peers, got, ok)
				}
				checkAsked(t, "a term", c)
			}
		}
	}
	// Of nodes alone, not of what is on its way or was.
	c := withLeads(withNet(clusterWith(2, followingNode(1, 2, 3, -1, logOf(2), 1)), voteMsg(0, 1, 50, true)), 70)
	if got, ok := impl.HighestTerm(c); got != 3 || !ok {
		t.Errorf("the nodes have 3: %d %v", got, ok)
	}
}

func TestAskedOfAClusterThatIsNotGood(t *testing.T) {
	for name, c := range badClusters() {
		if l, ok := impl.LeadersOf(c); ok || len(l) != 0 {
			t.Errorf("%s: LeadersOf: %v %v", name, l, ok)
		}
		if l, ok := impl.CommonLog(c); ok || len(l) != 0 {
			t.Errorf("%s: CommonLog: %s %v", name, shown(l), ok)
		}
		if n, ok := impl.HighestTerm(c); ok || n != 0 {
			t.Errorf("%s: HighestTerm: %d %v", name, n, ok)
		}
		checkAsked(t, name, c)
	}
}
