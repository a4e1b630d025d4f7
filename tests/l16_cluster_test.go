package tests

import (
	"fmt"
	"slices"
	"testing"

	"loop.example/g00224/impl"
)

func TestTimeoutLines(t *testing.T) {
	wantTalk(t, "each node", "timeout 0", "net 2", "role 0", "role 1 1 0", "timeout 1", "net 4", "role 1", "role 1 1 0", "timeout 2", "net 6", "role 2", "role 1 1 0", "timeout 0", "net 8", "role 0", "role 1 2 0")
	wantTalk(t, "no node", "timeout 3", "no", "timeout 4", "no", "timeout 999999999", "no", "role 0", "role 0 0 0", "timeout 2", "net 2")
	wantTalkBehind(t, "one that leads", leading(), "timeout 0", "no", "role 0", "role 2 1 0", "timeout 1", "net 3", "role 1", "role 1 2 0", "timeout 2", "net 5", "role 2", "role 1 1 0")
}

func TestCrashLines(t *testing.T) {
	wantTalkBehind(t, "each node", leading(), "crash 0", "net 1", "role 0", "role 0 1 0", "crash 0", "net 1", "crash 1", "net 1", "role 1", "role 0 1 0", "crash 2", "net 1", "role 2", "role 0 0 0", "timeout 0", "net 3", "role 0", "role 1 2 0")
	wantTalk(t, "no node", "crash 3", "no", "crash 4", "no", "crash 999999999", "no", "crash 2", "net 0", "crash 0", "net 0")
	wantTalkBehind(t, "what was committed", append(leading(), "command 0 1 1 k v", "send 0 1 1", "deliver 1", "deliver 1"), "state 0", "cells k=v", "crash 0", "net 1", "state 0", "cells", "role 0", "role 0 1 0", "command 0 1 2 k w", "no")
}

func TestDeliverLines(t *testing.T) {
	wantTalk(t, "votes", "deliver 0", "no", "timeout 0", "net 2", "deliver 2", "no", "deliver 1", "net 2", "role 2", "role 0 1 0", "role 1", "role 0 0 0", "deliver 1", "net 1", "role 0", "role 2 1 0", "deliver 0", "net 1", "deliver 0", "net 0", "deliver 0", "no", "role 0", "role 2 1 0")
	wantTalk(t, "no message", "timeout 0", "net 2", "deliver 2", "no", "deliver 3", "no", "deliver 60", "no", "deliver 999999999", "no", "lose 0", "net 1", "deliver 1", "no", "deliver 0", "net 1")
}

func TestLoseAndDoubleLines(t *testing.T) {
	wantTalk(t, "lose", "lose 0", "no", "timeout 0", "net 2", "lose 2", "no", "lose 1", "net 1", "lose 1", "no", "deliver 0", "net 1", "lose 0", "net 0", "lose 0", "no", "role 0", "role 1 1 0", "lose 999999999", "no")
	wantTalk(t, "double", "double 0", "no", "timeout 0", "net 2", "double 0", "net 3", "double 2", "net 4", "double 4", "no", "double 999999999", "no", "lose 0", "net 3", "deliver 1", "net 3", "deliver 2", "net 2", "role 0", "role 2 1 0")
	wantTalk(t, "which one", "timeout 0", "net 2", "double 1", "net 3", "lose 1", "net 2", "deliver 1", "net 2", "role 2", "role 0 1 0", "role 1", "role 0 0 0")
}

// Net takes MaxNet messages: others are lost, and nothing is doubled.
func TestLinesToANetThatIsFull(t *testing.T) {
	ahead := append(leading(), linesFrom(57, func(int) string { return "double 0" })...)
	wantTalkBehind(t, "nearly full", ahead, "send 0 1 1", "net 59", "send 0 2 0", "net 60", "double 0", "no", "double 59", "no", "send 0 1 1", "net 60", "timeout 1", "net 60", "role 1", "role 1 2 0", "deliver 0", "net 60", "lose 0", "net 59", "double 0", "net 60", "double 0", "no", "deliver 60", "no", "deliver 59", "net 60", "lose 59", "net 59")
	wantTalkBehind(t, "room for one", append(ahead, "double 0"), "timeout 2", "net 60", "crash 2", "net 60", "propose 0 x", "net 60")
}

func TestSendLines(t *testing.T) {
	ahead := append(leading(), "lose 0", "propose 0 x", "command 0 1 1 k v")
	wantTalkBehind(t, "send", ahead, "send 0 1 2", "net 1", "deliver 0", "net 1", "deliver 0", "net 0", "role 0", "role 2 1 2", "state 0", "cells k=v", "role 1", "role 0 1 0", "send 0 1 0", "net 1", "deliver 0", "net 1", "role 1", "role 0 1 2", "state 1", "cells k=v", "state 2", "cells")
	wantTalkBehind(t, "how many", ahead, "send 0 1 0", "net 1", "send 0 1 1", "net 2", "send 0 1 60", "net 3", "send 0 1 61", "no", "send 0 1 999999999", "no", "send 0 2 3", "net 4")
	wantTalkBehind(t, "one after another", ahead, "send 0 2 1", "net 1", "deliver 0", "net 1", "deliver 0", "net 0", "role 0", "role 2 1 1", "send 0 2 1", "net 1", "deliver 0", "net 1", "deliver 0", "net 0", "role 0", "role 2 1 2")
	wantTalkBehind(t, "to itself", ahead, "send 0 0 1", "no")
	wantTalkBehind(t, "to no node", ahead, "send 0 3 1", "no", "send 0 999999999 1", "no")
	wantTalkBehind(t, "of one that does not lead", ahead, "send 1 0 1", "no", "send 2 0 1", "no", "send 1 2 0", "no")
	wantTalkBehind(t, "of no node", ahead, "send 3 0 1", "no", "send 999999999 1 1", "no")
	wantTalk(t, "nobody leads", "send 0 1 1", "no", "send 1 2 0", "no", "timeout 0", "net 2", "send 0 1 1", "no")
}

func TestProposeLines(t *testing.T) {
	wantTalkBehind(t, "propose", leading(), "propose 0 x", "net 1", "propose 0 ", "net 1", "propose 0  x ", "net 1", "propose 1 x", "no", "propose 2 x", "no", "propose 3 x", "no", "propose 999999999 x", "no", "propose 0", "what", "command 0 1 1 k v", "index 4", "role 0", "role 2 1 0")
	wantTalk(t, "nobody leads", "propose 0 x", "no", "timeout 0", "net 2", "propose 0 x", "no", "deliver 0", "net 2", "deliver 1", "net 1", "propose 0 x", "net 1", "command 0 1 1 k v", "index 2", "crash 0", "net 1", "propose 0 x", "no")
	for many, answer := range map[int]string{0: "net 1", 1: "net 1", 99: "net 1", 100: "net 1", 101: "no", 102: "no", 2000: "no"} {
		wantTalkBehind(t, fmt.Sprint("a text of ", many), leading(), "propose 0 "+sized(many), answer)
		wantTalkBehind(t, fmt.Sprint("a text of ", many, " blanks"), leading(), "propose 0 "+repeated(' ', many), answer)
		wantTalkBehind(t, fmt.Sprint("another text of ", many), leading(), "propose 0 "+repeated(0xff, many), answer)
	}
	full := append(leading(), linesFrom(59, func(i int) string { return fmt.Sprint("propose 0 ", i) })...)
	wantTalkBehind(t, "a log that is full", full, "propose 0 last", "net 1", "propose 0 beyond", "no", "propose 0 ", "no", "command 0 1 1 k v", "no", "send 0 1 60", "net 2", "deliver 1", "net 2", "deliver 1", "net 1", "role 0", "role 2 1 60", "propose 0 x", "no")
	wantTalkBehind(t, "a log that is nearly full", full, "command 0 1 1 k v", "index 60", "command 0 1 2 k v", "no", "propose 0 x", "no")
}

// What is proposed may be a command's text: it is one then. Anything else is none.
func TestProposedCommands(t *testing.T) {
	text := textByHand(putting(7, 1, "k", "v"))
	wantTalkBehind(t, "a command", append(leading(), "propose 0 "+text, "propose 0 no command", "propose 0 "+textByHand(deleting(7, 2, "none")), "command 0 7 1 k again", "command 0 7 3 j ", "send 0 1 9", "deliver 1", "deliver 1"),
		"role 0", "role 2 1 5", "state 0", "cells j= k=v")
}

func TestCommandLines(t *testing.T) {
	wantTalkBehind(t, "at each node", leading(), "command 0 1 1 k v", "index 1", "command 1 1 1 k v", "no", "command 2 1 1 k v", "no", "command 3 1 1 k v", "no", "command 999999999 1 1 k v", "no", "command 0 1 1 k v", "index 2")
	wantTalk(t, "nobody leads", "command 0 1 1 k v", "no", "timeout 0", "net 2", "command 0 1 1 k v", "no", "deliver 0", "net 2", "deliver 1", "net 1", "command 0 1 1 k v", "index 1", "crash 0", "net 1", "command 0 1 1 k v", "no")
	for _, x := range []struct{ words, answer string }{
		{"0 1 k v", "index 1"}, {"99 1 k v", "index 1"}, {"100 1 k v", "no"}, {"101 1 k v", "no"}, {"999999999 1 k v", "no"},
		{"1 0 k v", "no"}, {"1 1 k v", "index 1"}, {"1 1000000 k v", "index 1"}, {"1 1000001 k v", "no"}, {"1 999999999 k v", "no"},
		{"1 1 " + sized(16) + " v", "index 1"}, {"1 1 " + sized(17) + " v", "no"}, {"1 1 " + sized(200) + " v", "no"},
		{"1 1 k ", "index 1"}, {"1 1 k " + sized(40), "index 1"}, {"1 1 k " + sized(41), "no"}, {"1 1 k " + repeated(' ', 40), "index 1"}, {"1 1 k " + repeated(' ', 41), "no"},
		{"99 1000000 " + repeated(0xff, 16) + " " + repeated(0xff, 40), "index 1"}, {"1 1 k", "what"}, {"1 1  v", "what"}, {"1 k v", "what"}, {"1 1 1 k v", "index 1"},
	} {
		wantTalkBehind(t, shown(x.words), leading(), "command 0 "+x.words, x.answer, "role 0", "role 2 1 0")
	}
	_, c, _ := impl.StoreOf(scriptOf(append(leading(), "command 0 12 345 key of v")...))
	if l := c.Nodes[0].Log; len(l) != 1 || l[0] != (impl.Entry{Term: 1, Data: textByHand(putting(12, 345, "key", "of v"))}) {
		t.Errorf("a command is %s", shown(l))
	}
}

// committed are lines behind which node 0 has committed what was submitted to it, and node 1 has it.
func committed(commands ...string) []string {
	return slices.Concat(leading(), commands, []string{"send 0 1 60", "deliver 1", "deliver 1"})
}

func TestStateLines(t *testing.T) {
	wantTalk(t, "new", "state 0", "cells", "state 1", "cells", "state 2", "cells", "state 3", "no", "state 4", "no", "state 999999999", "no", "state", "what", "state 0 1", "what")
	ahead := committed("command 0 1 1 b x y", "command 0 2 1 a ", "command 0 1 1 b again", "command 0 1 2 c z")
	wantTalkBehind(t, "committed", ahead, "state 0", "cells a= b=x y c=z", "state 1", "cells", "role 1", "role 0 1 0", "send 0 1 0", "net 2", "deliver 1", "net 2", "state 1", "cells a= b=x y c=z", "state 2", "cells", "state 3", "no", "role 0", "role 2 1 4")
	wantTalkBehind(t, "not committed", append(leading(), "command 0 1 1 b x"), "state 0", "cells", "role 0", "role 2 1 0")
	// A session that is full, and cells that are.
	many := linesFrom(14, func(i int) string { return fmt.Sprint("command 0 ", i, " 1 ", numbered(i), " ", i) })
	wantTalkBehind(t, "14 sessions", committed(many...), "state 0", "cells n00=0 n01=1 n02=2 n03=3 n04=4 n05=5 n06=6 n07=7 n08=8 n09=9 n10=10 n11=11")
	cells := linesFrom(42, func(i int) string { return fmt.Sprint("command 0 1 ", i+1, " ", numbered(i), " v") })
	want := "cells"
	for i := range 40 {
		want += " " + numbered(i) + "=v"
	}
	wantTalkBehind(t, "42 cells", committed(cells...), "state 0", want)
}

func TestRoleLines(t *testing.T) {
	wantTalk(t, "new", "role 0", "role 0 0 0", "role 1", "role 0 0 0", "role 2", "role 0 0 0", "role 3", "no", "role 4", "no", "role 999999999", "no", "role", "what", "role 0 1", "what")
	wantTalkBehind(t, "each Role", append(committed("command 0 1 1 k v", "propose 0 x"), "timeout 2", "timeout 2", "timeout 2"), "role 0", "role 2 1 2", "role 1", "role 0 1 0", "role 2", "role 1 3 0", "role 3", "no")
	terms := linesFrom(97, func(int) string { return "timeout 1" })
	wantTalkBehind(t, "a great Term", terms, "role 1", "role 1 97 0", "timeout 1", "net 60", "role 1", "role 1 98 0")
}

// One that led in an earlier term and does not know it leads on in that one.
func TestALineToEachOfTwoThatLead(t *testing.T) {
	lines := append(leading(), "propose 0 old", "lose 0", "timeout 1", "lose 0", "deliver 0", "deliver 0")
	wantTalkBehind(t, "two", lines, "role 0", "role 2 1 0", "role 1", "role 2 2 0", "role 2", "role 0 2 0", "command 0 1 1 k old", "index 2", "command 1 1 1 k new", "index 1", "send 1 0 9", "net 1", "deliver 0", "net 1", "role 0", "role 0 2 0",
		"command 0 1 2 k old", "no", "deliver 0", "net 0", "state 1", "cells k=new", "role 1", "role 2 2 1", "state 0", "cells", "send 1 0 0", "net 1", "deliver 0", "net 1", "state 0", "cells k=new")
}
