package tests

import (
	"fmt"
	"slices"
	"testing"

	"loop.example/g00224/impl"
)

func wantLeads(t *testing.T, what string, c impl.Cluster, want ...impl.Lead) {
	t.Helper()
	if !slices.Equal(c.Leads, want) {
		t.Errorf("%s: Leads are %v, want %v", what, c.Leads, want)
	}
}

// Who is noted is the node that the message was to, whatever the step's Node is.
func TestALeadByAVote(t *testing.T) {
	for peers := 2; peers <= 7; peers++ {
		for id := range peers {
			c := stepped(t, "asks", newCluster(peers), timeoutOf(id))
			for votes := 1; 2*votes <= peers; votes++ {
				wantLeads(t, fmt.Sprintf("%d votes of %d", votes, peers), c)
				c = stepped(t, "a vote", c, deliver(0))
				at := len(c.Net) - 1
				c = stepped(t, "a vote", c, impl.ClusterStep{Kind: impl.DoDeliver, K: at, Node: (id + 1) % peers})
			}
			wantLeads(t, fmt.Sprintf("%d leads %d", id, peers), c, impl.Lead{Term: 1, Node: id})
			if c.Nodes[id].Role != impl.RoleLeads {
				t.Errorf("%d does not lead", id)
			}
		}
	}
}

func TestALeadByATimeout(t *testing.T) {
	c := stepped(t, "alone", newCluster(1), timeoutOf(0))
	wantLeads(t, "alone", c, impl.Lead{Term: 1, Node: 0})
	// Two ask: nobody leads yet.
	c = stepped(t, "both ask", newCluster(2), timeoutOf(0), timeoutOf(1), timeoutOf(0))
	wantLeads(t, "both ask", c)
}

func TestNoLeadAgainInTheSameTerm(t *testing.T) {
	one := impl.Lead{Term: 1, Node: 0}
	c := stepped(t, "leads", newCluster(3), timeoutOf(0), deliver(0), deliver(0), deliver(0))
	wantLeads(t, "leads", c, one)
	for i, s := range []impl.ClusterStep{deliver(0), proposeTo(0, "a"), send(0, 1, 1), double(0), deliver(0), deliver(0), deliver(0), deliver(0), send(0, 2, 3), lose(0), proposeTo(0, "b")} {
		c = stepped(t, "leads on", c, s)
		wantLeads(t, fmt.Sprint("leads on ", i), c, one)
	}
	if c.Nodes[0].Commit != 1 || c.Nodes[0].Role != impl.RoleLeads || len(c.Net) != 0 {
		t.Errorf("it does not lead on: %s", shown(c))
	}
	// Nor does anything that another node does note who leads on.
	c = stepped(t, "another asks", c, timeoutOf(2), crashOf(1), timeoutOf(1))
	wantLeads(t, "another asks", c, one)
	alone := stepped(t, "alone", newCluster(1), timeoutOf(0), proposeTo(0, "a"), proposeTo(0, "b"))
	wantLeads(t, "alone", alone, one)
	next, ok := checkClusterStep(t, "alone", alone, timeoutOf(0))
	if ok {
		t.Errorf("who leads times out: %s", shown(next))
	}
}

// Who leads, and does not for a while, leads in another Term then.
func TestALeadAgainInAnotherTerm(t *testing.T) {
	c := newCluster(1)
	var want []impl.Lead
	for term := 1; term <= 40; term++ {
		c = stepped(t, "alone", c, timeoutOf(0))
		want = append(want, impl.Lead{Term: term})
		wantLeads(t, fmt.Sprint("alone in ", term), c, want...)
		c = stepped(t, "alone", c, crashOf(0))
		wantLeads(t, "a crash", c, want...)
	}
	c, want = newCluster(2), nil
	for term := 1; term <= 12; term++ {
		id := term / 2 % 2
		if c.Nodes[id].Role == impl.RoleLeads {
			c = stepped(t, "two", c, crashOf(id))
		}
		c = stepped(t, "two", c, timeoutOf(id), deliver(0), deliver(0))
		want = append(want, impl.Lead{Term: term, Node: id})
		wantLeads(t, fmt.Sprint("two in ", term), c, want...)
	}
	if len(want) != 12 || want[0].Node == want[1].Node || want[1].Node != want[2].Node {
		t.Errorf("the test itself is wrong: %v", want)
	}
}

// Several lead at once, the earlier one not knowing of the later: both are noted, in the order in which they came to lead.
func TestLeadsOfSeveralAtOnce(t *testing.T) {
	c := stepped(t, "0 leads", newCluster(3), timeoutOf(0), deliver(0), deliver(1), lose(0))
	c = stepped(t, "2 leads", c, timeoutOf(2), timeoutOf(2), lose(0), lose(0), lose(0), deliver(0), deliver(0))
	wantLeads(t, "both", c, impl.Lead{Term: 1, Node: 0}, impl.Lead{Term: 2, Node: 2})
	if c.Nodes[0].Role != impl.RoleLeads || c.Nodes[2].Role != impl.RoleLeads {
		t.Errorf("one does not lead: %s", shown(c))
	}
	checkAsked(t, "both", c)
	wantAgreed(t, "both", c)
}

// Leads are never more than a thousand: who comes to lead then leads, and is not noted.
func TestAThousandLeads(t *testing.T) {
	for many := 997; many <= 1000; many++ {
		what := fmt.Sprint(many, " there already")
		alone := withLeads(newCluster(1), many)
		want := withLeads(clusterWith(1, leadingNode(0, 1, 1, nil, 0, 0)), many)
		voted := withLeads(withNet(clusterWith(3, askingNode(1, 3, 7, logOf(3), 1, 1)), voteMsg(2, 1, 7, true)), many)
		led := withLeads(clusterWith(3, leadingNode(1, 3, 7, logOf(3), 1, 0, 1, 0)), many)
		if many < 1000 {
			want.Leads = append(want.Leads, impl.Lead{Term: 1, Node: 0})
			led.Leads = append(led.Leads, impl.Lead{Term: 7, Node: 1})
		}
		wantStepped(t, what+", by a timeout", alone, timeoutOf(0), want)
		wantStepped(t, what+", by a vote", voted, deliver(0), led)
	}
}

// All terms that there are, one behind the other.
func TestLeadsInAllTerms(t *testing.T) {
	c := newCluster(1)
	for term := 1; term <= 1000; term++ {
		next, ok := impl.StepCluster(c, timeoutOf(0))
		if !ok || len(next.Leads) != term || next.Leads[term-1] != (impl.Lead{Term: term}) {
			t.Fatalf("term %d: %v, %d leads", term, ok, len(next.Leads))
		}
		c, ok = impl.StepCluster(next, crashOf(0))
		if !ok {
			t.Fatalf("term %d: no crash", term)
		}
	}
	wantNotStepped(t, "behind the last term", c, timeoutOf(0))
	checkGoodCluster(t, "all terms", c, true)
	wantAgreed(t, "all terms", c)
}
