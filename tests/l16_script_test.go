package tests

import (
	"fmt"
	"slices"
	"strings"
	"testing"

	"loop.example/g00224/impl"
)

func TestAScriptOfBothEngineAndCluster(t *testing.T) {
	wantTalk(t, "both",
		"put a 1", "seq 1", "timeout 0", "net 2", "put b v w", "seq 2", "deliver 0", "net 2", "flush", "files 1", "deliver 1", "net 1",
		"command 0 1 1 a of the cluster", "index 1", "send 0 1 1", "net 2", "deliver 1", "net 2", "deliver 1", "net 1",
		"state 0", "cells a=of the cluster", "scan", "cells a=1 b=v w", "del a", "seq 3", "get a", "none", "get a 2", "value 1",
		"role 0", "role 2 1 1", "role 1", "role 0 1 0", "state 1", "cells", "fly", "what")
}

// No line at all: nothing is answered, and the engine and the cluster are new.
func TestTheEmptyScript(t *testing.T) {
	if got := impl.RunStore(""); got != "" {
		t.Errorf("RunStore: %q", got)
	}
	e, c, ok := impl.StoreOf("")
	wantEngine(t, "StoreOf", e, ok, newKept())
	wantCluster(t, "StoreOf", c, ok, newCluster(3))
}

func TestHowManyBytesAScriptHas(t *testing.T) {
	for _, many := range []int{2499, 2500} {
		text := scriptOf("put a 1", sized(many-15), "get a")
		if len(text) != many {
			t.Fatalf("the test itself is wrong: %d bytes", len(text))
		}
		if got := checkScript(t, fmt.Sprint(many, " bytes"), text); got != "seq 1\nwhat\nvalue 1\n" {
			t.Errorf("%d bytes: %s", many, shown(got))
		}
		if got := impl.RunStore(sized(many-1) + "\n"); got != "what\n" {
			t.Errorf("one line of %d bytes: %s", many, shown(got))
		}
	}
	for _, many := range []int{2501, 2502, 5000, 1000000} {
		wantNoScript(t, fmt.Sprint(many, " bytes"), scriptOf("put a 1", sized(many-9)))
		wantNoScript(t, fmt.Sprint("one line of ", many, " bytes"), sized(many-1)+"\n")
		wantNoScript(t, fmt.Sprint(many, " bytes without a byte 10"), sized(many))
		wantNoScript(t, fmt.Sprint(many, " lines"), strings.Repeat("\n", many))
	}
}

func TestHowManyLinesAScriptHas(t *testing.T) {
	for _, many := range []int{1, 2, 99, 100} {
		text := strings.Repeat("put a 1\n", many)
		got := checkScript(t, fmt.Sprint(many, " lines"), text)
		if l := linesOf(got); len(l) != many || l[0] != "seq 1" {
			t.Errorf("%d lines: %s", many, shown(got))
		}
		if got := checkScript(t, fmt.Sprint(many, " empty lines"), strings.Repeat("\n", many)); got != strings.Repeat("what\n", many) {
			t.Errorf("%d empty lines: %s", many, shown(got))
		}
	}
	for _, many := range []int{101, 102, 200, 312} {
		wantNoScript(t, fmt.Sprint(many, " lines"), strings.Repeat("put a 1\n", many))
		wantNoScript(t, fmt.Sprint(many, " empty lines"), strings.Repeat("\n", many))
	}
	wantNoScript(t, "100 lines and one without a byte 10", strings.Repeat("put a 1\n", 100)+"scan")
	// Both limits at once.
	if got := checkScript(t, "both", strings.Repeat(sized(24)+"\n", 100)); got != strings.Repeat("what\n", 100) {
		t.Errorf("100 lines of 25 bytes: %s", shown(got))
	}
	wantNoScript(t, "a byte more", strings.Repeat(sized(24)+"\n", 99)+sized(25)+"\n")
	wantNoScript(t, "a line more", strings.Repeat(sized(23)+"\n", 100)+"\n")
}

func TestAScriptWhoseLastLineHasNoByte10(t *testing.T) {
	for _, last := range []string{"scan", "s", " ", "\r", "\x00", "put a 1", "\xff"} {
		wantNoScript(t, "one line", last)
		wantNoScript(t, "the last line", "put a 1\n"+last)
		wantNoScript(t, "behind an empty line", "\n"+last)
		wantNoScript(t, "other ends of lines", "put a 1\r"+last)
	}
	text := scriptOf("put a 1", "get a", "", "scan")
	for at := range text {
		if text[at] != '\n' {
			wantNoScript(t, "cut", text[:at+1])
		} else {
			checkScript(t, "cut", text[:at+1])
		}
	}
}

func TestEmptyLines(t *testing.T) {
	wantTalk(t, "empty lines", "", "what", "put a 1", "seq 1", "", "what", "", "what", "get a", "value 1", "", "what")
	wantTalk(t, "one", "", "what")
}

// The answers to 100 lines may have more bytes than a script.
func TestAnswersThatAreLongerThanAScript(t *testing.T) {
	lines := append(putLines(40), linesFrom(60, func(int) string { return "scan" })...)
	got := checkScript(t, "long answers", scriptOf(lines...))
	if len(got) < 10000 {
		t.Errorf("%d bytes", len(got))
	}
}

// goodLines are good lines of each kind.
func goodLines() []string {
	return []string{"put k v", "put k v w", "put k ", "del k", "get k", "get k 0", "scan", "flush", "compact 0", "compact 0 1", "timeout 1", "crash 0", "deliver 0", "lose 0", "double 0",
		"send 0 1 1", "propose 0 v", "propose 0 ", "command 0 1 1 k v", "command 0 1 1 k ", "state 0", "role 0"}
}

// busy is ahead of lines that are tried: each good line is answered by neither `no` nor `what` behind it.
func busy() []string {
	return slices.Concat(leading(), []string{"put k 0", "flush", "put j 1"})
}

func TestEachKindOfLineIsDone(t *testing.T) {
	for _, line := range goodLines() {
		got := linesOf(checkScript(t, line, scriptOf(append(busy(), line)...)))
		if last := got[len(got)-1]; last == "no" || last == "what" {
			t.Errorf("%q: %q", line, last)
		}
	}
}

// endsInText tells whether all that is left of a line is told as V.
func endsInText(line string) bool {
	name, _, _ := strings.Cut(line, " ")
	return name == "put" || name == "propose" || name == "command"
}

func wantWhat(t *testing.T, line string) {
	t.Helper()
	wantTalkBehind(t, "what", busy(), line, "what", "scan", "cells j=1 k=0", "role 0", "role 2 1 0")
}

// Two blanks, a blank ahead, a blank at the end, a word too many: where it is not V it is no line.
func TestBlanksAmongWords(t *testing.T) {
	for _, line := range goodLines() {
		wantWhat(t, " "+line)
		wantWhat(t, "\t"+line)
		if !endsInText(line) {
			wantWhat(t, line+" ")
			wantWhat(t, line+"  ")
			wantWhat(t, line+" x")
			wantWhat(t, line+" 1 1")
			wantWhat(t, strings.ReplaceAll(line, " ", "  ")+"  ")
		}
		words := strings.SplitAfter(line, " ")
		for i := range words[:len(words)-1] {
			if endsInText(line) && i >= len(fixedWords(line))-1 {
				break
			}
			wantWhat(t, strings.Join(words[:i+1], "")+" "+strings.Join(words[i+1:], ""))
		}
	}
}

// Nothing else is a blank: it is of the word that it stands in.
func TestWhatIsNoBlank(t *testing.T) {
	for _, c := range []string{"\t", "\r", "\v", "\f", "\x00", "\u00a0", "\u2003", "\x85", "\xa0"} {
		for _, line := range goodLines() {
			wantWhat(t, strings.Replace(line, " ", c, 1)+c)
			wantWhat(t, c+line)
			if _, rest, _ := strings.Cut(line, " "); rest == "" || !strings.ContainsAny(rest, "kv ") {
				wantWhat(t, line+c)
			}
		}
		wantTalk(t, "of the key", "put k"+c+" v", "seq 1", "get k"+c, "value v", "get k", "none", "get k"+c+"1", "none", "del k"+c, "seq 2")
	}
}

// fixedWords are the words of a line ahead of V.
func fixedWords(line string) []string {
	words := strings.Split(line, " ")
	switch words[0] {
	case "put", "propose":
		return words[:2]
	case "command":
		return words[:5]
	}
	return words
}

// A word that is missing: also where just V is missing, with the blank ahead of it.
func TestWordsThatAreMissing(t *testing.T) {
	for _, line := range goodLines() {
		words := fixedWords(line)
		for many := range len(words) + 1 {
			short := strings.Join(words[:many], " ")
			if _, is := lineByHand(short); is {
				continue
			}
			wantWhat(t, short)
		}
	}
	for _, line := range []string{"put", "put k", "del", "get", "compact", "timeout", "crash", "deliver", "lose", "double", "send", "send 0", "send 0 1", "propose", "propose 0",
		"command", "command 0", "command 0 1", "command 0 1 1", "command 0 1 1 k", "state", "role"} {
		wantWhat(t, line)
	}
}

// Where a key or a number is told there is a word: an empty one is none.
func TestWordsThatAreEmpty(t *testing.T) {
	for _, line := range []string{"put ", "put  ", "put  v", "put   v", "del ", "get ", "get  ", "get  0", "get k ", "compact ", "compact  ", "compact 0 ", "timeout ", "crash ", "deliver ",
		"lose ", "double ", "send ", "send 0 ", "send 0 1 ", "send 0  1", "send  0 1", "propose ", "propose  ", "propose  v", "command  1 1 k v", "command 0  1 k v", "command 0 1  k v",
		"command 0 1 1  v", "command 0 1 1  ", "command 0 1 1 ", "state ", "role ", " ", "  "} {
		wantWhat(t, line)
	}
}

func TestV(t *testing.T) {
	for _, value := range []string{"", " ", "  ", " v", "v ", "  v  w  ", "v w", "v  w", "0", "=", "\t", "\r", "\x00", "\xff", "\x80\xfe", "é", "a\x00b", "put a b", sized(40), repeated(' ', 40), repeated(0xff, 40)} {
		wantTalk(t, "put", "put k "+value, "seq 1", "get k", "value "+value, "get k 1", "value "+value, "scan", "cells k="+value)
		wantTalkBehind(t, "command", append(leading(), "command 0 1 1 k "+value, "send 0 1 1", "deliver 1", "deliver 1"), "state 0", "cells k="+value, "role 0", "role 2 1 1")
		wantTalkBehind(t, "propose", leading(), "propose 0 "+value, "net 1")
		_, c, ok := impl.StoreOf(scriptOf(append(leading(), "propose 0 "+value)...))
		if !ok || len(c.Nodes[0].Log) != 1 || c.Nodes[0].Log[0].Data != value {
			t.Errorf("propose %q: %s", value, shown(c.Nodes))
		}
	}
}

// Keys are bytes: any of them but a blank and the byte 10.
func TestBytesInAKey(t *testing.T) {
	for c := range 256 {
		key := string([]byte{'k', byte(c), 'k'})
		if c == '\n' || c == ' ' {
			continue
		}
		wantTalk(t, "put", "put "+key+" v", "seq 1", "get "+key, "value v", "get "+key+" 0", "none", "scan", "cells "+key+"=v", "del "+key, "seq 2", "get "+key, "none", "get "+key+" 1", "value v")
		wantTalkBehind(t, "command", append(leading(), "command 0 1 1 "+key+" v", "send 0 1 1", "deliver 1", "deliver 1"), "state 0", "cells "+key+"=v")
		alone := key[1:2]
		wantTalk(t, "alone", "put "+alone+" v", "seq 1", "get "+alone, "value v")
	}
}

// Keys come in the order of their bytes.
func TestTheOrderOfCells(t *testing.T) {
	wantTalk(t, "order", "put \xff 1", "seq 1", "put b 2", "seq 2", "put aa 3", "seq 3", "put a 4", "seq 4", "put \x01 5", "seq 5", "put é 6", "seq 6",
		"scan", "cells \x01=5 a=4 aa=3 b=2 é=6 \xff=1")
}

// numberLines has a place for each number of each kind of line.
func numberLines() []string {
	return []string{"get k #", "compact #", "compact # 1", "compact 0 #", "timeout #", "crash #", "deliver #", "lose #", "double #", "send # 1 1", "send 0 # 1", "send 0 1 #",
		"propose # v", "command # 1 1 k v", "command 0 # 1 k v", "command 0 1 # k v", "state #", "role #"}
}

func TestNumbersThatAreNone(t *testing.T) {
	for _, form := range numberLines() {
		for _, number := range []string{"", "00", "01", "000000001", "-0", "-1", "+0", "+1", "1000000000", "9999999999", "18446744073709551616", "0000000000", "x", "1x", "x1", "0x1", "1.", "1.0", ".1",
			"1e1", "1_0", "1,0", "１", "٣", "\xff", "1\x00", "\x001", "1\r", "\t1", "/", ":", "a", "A", "true", "K"} {
			wantWhat(t, strings.Replace(form, "#", number, 1))
		}
	}
}

// Numbers of one to nine digits are some, whatever they lead to.
func TestNumbersThatAreSome(t *testing.T) {
	for _, form := range numberLines() {
		for _, number := range []string{"0", "1", "2", "3", "9", "10", "60", "61", "100", "101", "1000", "100000", "1000000", "99999999", "100000000", "999999999"} {
			line := strings.Replace(form, "#", number, 1)
			got := linesOf(checkScript(t, line, scriptOf(append(busy(), line)...)))
			if last := got[len(got)-1]; last == "what" {
				t.Errorf("%q: %q", line, last)
			}
			if last := got[len(got)-1]; len(number) == 9 && last != "no" && form != "send 0 1 #" {
				t.Errorf("%q: %q", line, last)
			}
		}
	}
}

func TestUnknownWords(t *testing.T) {
	for _, line := range goodLines() {
		name, rest, _ := strings.Cut(line, " ")
		for _, other := range []string{strings.ToUpper(name), strings.ToUpper(name[:1]) + name[1:], name[:len(name)-1], name + "s", name[1:], "x" + name, name + "\x00", name + "=", "\xff", "x", "0", ""} {
			wantWhat(t, strings.Replace(line, name, other, 1))
			wantWhat(t, other)
		}
		if rest != "" {
			wantWhat(t, name+rest)
			wantWhat(t, rest)
			wantWhat(t, rest+" "+name)
		}
	}
	for _, line := range []string{"fly", "what", "no", "none", "value 1", "seq 1", "cells", "files 1", "net 1", "index 1", "quit", "help", "delete k", "set k v", "swap k v w", "# put k v", "put=k v", "PUT k v", "\x00",
		"\xff\xfe", "K", "put\x00k v", "get\x00k", "ｓcan"} {
		wantWhat(t, line)
	}
}

// A line that reads by one kind is none of another: no word stands for two.
func TestLinesWithAnothersWords(t *testing.T) {
	for _, a := range goodLines() {
		for _, b := range goodLines() {
			_, rest, _ := strings.Cut(a, " ")
			name, _, _ := strings.Cut(b, " ")
			checkScript(t, "another's words", scriptOf(append(busy(), name+" "+rest, strings.TrimSuffix(name+" "+rest, " "), "scan", "state 0", "role 0")...))
		}
	}
}
