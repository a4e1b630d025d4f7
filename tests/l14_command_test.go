package tests

import (
	"fmt"
	"math"
	"strings"
	"testing"

	"loop.example/g00224/impl"
)

// everyOp are good commands, one of each Op, in the order of the Ops.
func everyOp() []impl.Command {
	return []impl.Command{getting(7, 8, "k"), putting(7, 8, "k", "v"), deleting(7, 8, "k"), swapping(7, 8, "k", "o", "v")}
}

// manyCommands are good.
func manyCommands() []impl.Command {
	var l []impl.Command
	for _, session := range []int{0, 1, 50, 99} {
		for _, n := range []int{1, 2, 127, 128, 16383, 16384, 999999, 1000000} {
			for _, key := range []string{"k", "\x00", sized(15), sized(16), repeated(0xff, 16)} {
				l = append(l, getting(session, n, key), deleting(session, n, key))
				for _, value := range []string{"", "v", "\x00", sized(39), sized(40), repeated(0x80, 40)} {
					l = append(l, putting(session, n, key, value), swapping(session, n, key, "", value), swapping(session, n, key, value, ""), swapping(session, n, key, value, value))
				}
			}
		}
	}
	for seed := range 200 {
		l = append(l, dealingOf(seed).command(100, 1000000))
	}
	return l
}

func TestSessionOfACommand(t *testing.T) {
	for _, c := range everyOp() {
		for session, good := range map[int]bool{math.MinInt: false, -1: false, 0: true, 1: true, 99: true, 100: false, 128: false, math.MaxInt: false} {
			c.Session = session
			wantGoodCommand(t, "Session", c, good)
		}
	}
}

func TestNumberOfACommand(t *testing.T) {
	for _, c := range everyOp() {
		for n, good := range map[int]bool{math.MinInt: false, -1: false, 0: false, 1: true, 2: true, 999999: true, 1000000: true, 1000001: false, math.MaxInt: false} {
			c.N = n
			wantGoodCommand(t, "N", c, good)
		}
	}
}

func TestOpOfACommand(t *testing.T) {
	for _, op := range []int{math.MinInt, -1, 0, 1, 2, 3, 4, 5, 6, 255, 256, 257, 258, 260, math.MaxInt} {
		wantGoodCommand(t, "Op", impl.Command{Session: 7, N: 8, Op: op, Key: "k"}, isWithin(op, 1, 4))
		for _, c := range everyOp() {
			c.Op = op
			checkCommand(t, "Op", c)
		}
	}
	if impl.CmdGet != 1 || impl.CmdPut != 2 || impl.CmdDelete != 3 || impl.CmdSwap != 4 {
		t.Error("an Op has another number")
	}
}

func TestKeyOfACommand(t *testing.T) {
	for _, c := range everyOp() {
		for size := range 20 {
			for _, key := range []string{sized(size), repeated(0, size), repeated(0xff, size)} {
				c.Key = key
				wantGoodCommand(t, "Key", c, isWithin(size, 1, 16))
			}
		}
		c.Key = sized(5000)
		wantGoodCommand(t, "Key", c, false)
	}
}

func TestValueOfACommand(t *testing.T) {
	for _, c := range everyOp() {
		for size := range 45 {
			c.Value = mixed(size, size)
			wantGoodCommand(t, "Value", c, size == 0 || size <= 40 && (c.Op == impl.CmdPut || c.Op == impl.CmdSwap))
		}
		c.Value = sized(5000)
		wantGoodCommand(t, "Value", c, false)
	}
}

func TestOldOfACommand(t *testing.T) {
	for _, c := range everyOp() {
		for size := range 45 {
			c.Old = mixed(size, size)
			wantGoodCommand(t, "Old", c, size == 0 || size <= 40 && c.Op == impl.CmdSwap)
		}
		c.Old = sized(5000)
		wantGoodCommand(t, "Old", c, false)
	}
}

// A Value or an Old does not stand for the other, and one wrong does not hide another.
func TestAllPartsOfACommand(t *testing.T) {
	for _, session := range []int{-1, 0, 99, 100} {
		for _, n := range []int{0, 1, 1000000, 1000001} {
			for op := range 6 {
				for _, key := range []string{"", "k", sized(16), sized(17)} {
					for _, value := range []string{"", "v", sized(40), sized(41)} {
						for _, old := range []string{"", "o", sized(40), sized(41)} {
							checkCommand(t, "all", impl.Command{Session: session, N: n, Op: op, Key: key, Value: value, Old: old})
						}
					}
				}
			}
		}
	}
}

func TestCommandsAsBytes(t *testing.T) {
	for _, x := range []struct {
		c    impl.Command
		text string
	}{
		{putting(1, 1, "k", "v"), "\x01\x01\x02\x01k\x01v\x00"},
		{getting(0, 1, "key"), "\x00\x01\x01\x03key\x00\x00"},
		{deleting(99, 128, "d"), "\x63\x80\x01\x03\x01d\x00\x00"},
		{swapping(2, 300, "k", "old", "new!"), "\x02\xac\x02\x04\x01k\x04new!\x03old"},
		{swapping(2, 1000000, "k", "", ""), "\x02\xc0\x84\x3d\x04\x01k\x00\x00"},
		{putting(3, 1, "\x00", "\x00\xff"), "\x03\x01\x02\x01\x00\x02\x00\xff\x00"},
	} {
		if text, ok := impl.CommandBytes(x.c); text != x.text || !ok {
			t.Errorf("CommandBytes of %s: %q %v, want %q", shown(x.c), text, ok, x.text)
		}
		if c, ok := impl.ReadCommand(x.text); c != x.c || !ok {
			t.Errorf("ReadCommand of %q: %s %v, want %s", x.text, shown(c), ok, shown(x.c))
		}
	}
}

func TestCommandsComeBackFromTheirBytes(t *testing.T) {
	for _, c := range manyCommands() {
		wantGoodCommand(t, "many", c, true)
		if !checkReadCommand(t, "many", textByHand(c)) {
			t.Errorf("%s does not come back", shown(c))
		}
	}
}

func TestCommandsThatAreNotGoodHaveNoBytes(t *testing.T) {
	for name, c := range badCommands() {
		if text, ok := impl.CommandBytes(c); text != "" || ok {
			t.Errorf("%s: CommandBytes: %q %v", name, text, ok)
		}
		checkCommand(t, name, c)
	}
}

// badCommands have each just one thing wrong.
func badCommands() map[string]impl.Command {
	return map[string]impl.Command{
		"the zero command":       {},
		"Session -1":             putting(-1, 1, "k", "v"),
		"Session 100":            putting(100, 1, "k", "v"),
		"Session least":          putting(math.MinInt, 1, "k", "v"),
		"Session greatest":       putting(math.MaxInt, 1, "k", "v"),
		"N 0":                    putting(1, 0, "k", "v"),
		"N -1":                   putting(1, -1, "k", "v"),
		"N 1000001":              putting(1, 1000001, "k", "v"),
		"N least":                putting(1, math.MinInt, "k", "v"),
		"N greatest":             putting(1, math.MaxInt, "k", "v"),
		"Op 0":                   {Session: 1, N: 1, Op: 0, Key: "k"},
		"Op 5":                   {Session: 1, N: 1, Op: 5, Key: "k"},
		"Op -1":                  {Session: 1, N: 1, Op: -1, Key: "k"},
		"Op 258":                 {Session: 1, N: 1, Op: 258, Key: "k"},
		"no Key to get":          getting(1, 1, ""),
		"no Key to put":          putting(1, 1, "", "v"),
		"no Key to delete":       deleting(1, 1, ""),
		"no Key to swap":         swapping(1, 1, "", "o", "v"),
		"a Key of 17 bytes":      putting(1, 1, sized(17), "v"),
		"a Value of 41 bytes":    putting(1, 1, "k", sized(41)),
		"a Value to swap of 41":  swapping(1, 1, "k", "o", sized(41)),
		"an Old of 41 bytes":     swapping(1, 1, "k", sized(41), "v"),
		"a Value to get":         {Session: 1, N: 1, Op: impl.CmdGet, Key: "k", Value: "v"},
		"a Value to delete":      {Session: 1, N: 1, Op: impl.CmdDelete, Key: "k", Value: "v"},
		"an Old to get":          {Session: 1, N: 1, Op: impl.CmdGet, Key: "k", Old: "o"},
		"an Old to put":          {Session: 1, N: 1, Op: impl.CmdPut, Key: "k", Value: "v", Old: "o"},
		"an Old to delete":       {Session: 1, N: 1, Op: impl.CmdDelete, Key: "k", Old: "o"},
		"a Value and Old to get": {Session: 1, N: 1, Op: impl.CmdGet, Key: "k", Value: "v", Old: "o"},
	}
}

// What would be a command's text if it were good is none.
func TestTextsOfCommandsThatAreNotGood(t *testing.T) {
	for name, c := range badCommands() {
		if c.Session >= 0 && c.N >= 0 && isWithin(c.Op, 0, 255) {
			wantNoCommand(t, name, textByHand(c))
		}
	}
	for op := range 256 {
		text := textByHand(impl.Command{Session: 1, N: 1, Op: op, Key: "k"})
		if ok := checkReadCommand(t, "an Op", text); ok != isWithin(op, 1, 4) {
			t.Errorf("Op %d: ReadCommand tells %v", op, ok)
		}
	}
}

func textsOfCommands() []string {
	var l []string
	for _, c := range append(everyOp(), putting(99, 1000000, sized(16), sized(40)), swapping(99, 16384, sized(16), repeated(4, 40), repeated(1, 40)), putting(1, 1, "k", ""), getting(0, 1, "\x01"), swapping(0, 1, "\x00", "\x00", "\x00")) {
		l = append(l, textByHand(c))
	}
	return l
}

func TestTextsOfCommandsCutAnywhere(t *testing.T) {
	wantNoCommand(t, "nothing", "")
	for _, text := range textsOfCommands() {
		for many := range len(text) {
			wantNoCommand(t, "the front", text[:many])
			checkReadCommand(t, "the end", text[many:])
			if many > 0 {
				wantNoCommand(t, "twice up to there", text+text[:many])
			}
			for size := 1; many+size <= len(text); size++ {
				checkReadCommand(t, "a piece lacks", text[:many]+text[many+size:])
			}
		}
	}
}

func TestTextsOfCommandsWithAByteMore(t *testing.T) {
	for _, text := range textsOfCommands() {
		wantNoCommand(t, "twice", text+text)
		for c := range 256 {
			one := string([]byte{byte(c)})
			wantNoCommand(t, "a byte behind", text+one)
			for at := range len(text) {
				checkReadCommand(t, "a byte more", text[:at]+one+text[at:])
				checkReadCommand(t, "another byte", text[:at]+one+text[at+1:])
			}
		}
	}
}

// longerForms are other ways to tell a number than its own one: with noughts at its end, up to and beyond nine bytes.
func longerForms(n int) []string {
	own := numberByLibrary(n)
	front := own[:len(own)-1] + string([]byte{own[len(own)-1] | 128})
	var l []string
	for many := range 11 {
		l = append(l, front+repeated(128, many)+"\x00")
	}
	return l
}

// numbersOfCommand are the five numbers of a text, what is ahead of each, and what behind.
func numbersOfCommand(c impl.Command) [][3]string {
	session, n, op := numberByLibrary(c.Session), numberByLibrary(c.N), string([]byte{byte(c.Op)})
	key, value, old := numberByLibrary(len(c.Key)), numberByLibrary(len(c.Value)), numberByLibrary(len(c.Old))
	parts := []string{"", session, "", n, op, key, c.Key, value, c.Value, old, c.Old}
	var l [][3]string
	for _, place := range []int{1, 3, 5, 7, 9} {
		l = append(l, [3]string{strings.Join(parts[:place], ""), parts[place], strings.Join(parts[place+1:], "")})
	}
	return l
}

func TestNumbersOfCommandsInALongerForm(t *testing.T) {
	for _, c := range append(everyOp(), putting(99, 1000000, sized(16), sized(40)), swapping(1, 128, "k", sized(40), "")) {
		for i, x := range numbersOfCommand(c) {
			if x[0]+x[1]+x[2] != textByHand(c) {
				t.Fatalf("the test itself is wrong: %q", x)
			}
			n, _, _ := numberAheadByHand(x[1])
			for _, form := range longerForms(n) {
				wantNoCommand(t, fmt.Sprint("number ", i), x[0]+form+x[2])
			}
		}
	}
}

// A length may be beyond the end by one or by so much that a sum of it would wrap round.
func TestLengthsOfCommandsThatAreNotRight(t *testing.T) {
	for _, c := range append(everyOp(), putting(1, 1, "k", ""), swapping(1, 1, "k", "", "")) {
		for i, x := range numbersOfCommand(c) {
			n, _, _ := numberAheadByHand(x[1])
			for _, other := range []int{0, 1, 2, 3, 16, 17, 40, 41, 100, 127, 128, 1000000, math.MaxInt32, math.MaxInt - 1, math.MaxInt} {
				text := x[0] + numberByLibrary(other) + x[2]
				checkReadCommand(t, fmt.Sprint("number ", i), text)
				if i >= 2 && other > len(x[2]) {
					wantNoCommand(t, fmt.Sprint("beyond the end ", i), text)
				}
				if i >= 2 && other != n {
					checkReadCommand(t, "and so much behind", text+sized(40))
				}
			}
			wantNoCommand(t, "ten bytes", x[0]+repeated(255, 9)+"\x01"+x[2])
			wantNoCommand(t, "no end", x[0]+repeated(255, 20)+x[2])
			wantNoCommand(t, "no number", x[0]+"\x80")
			wantNoCommand(t, "no number", x[0])
		}
	}
}

// A text is the bytes of at most one command, and what is read has just that text.
func TestAllShortTextsAreReadAsCommands(t *testing.T) {
	read := 0
	var grow func(s string, left int)
	grow = func(s string, left int) {
		if checkReadCommand(t, "short", s) {
			read++
			c, _ := impl.ReadCommand(s)
			if text, ok := impl.CommandBytes(c); !ok || text != s {
				t.Errorf("%q is read, but its command has %q", s, text)
			}
		}
		if left == 0 {
			return
		}
		for _, c := range []byte{0, 1, 2, 3, 4, 128} {
			grow(s+string([]byte{c}), left-1)
		}
	}
	grow("", 7)
	if read == 0 {
		t.Error("none of them is a command")
	}
}

func TestAnyTextsAreReadAsCommands(t *testing.T) {
	for _, text := range anyTexts() {
		wantNoCommand(t, "any", text)
	}
	for seed := range 3000 {
		d := dealingOf(seed)
		checkReadCommand(t, "mixed", mixed(d.below(60), seed))
		text := textByHand(d.command(100, 1000000))
		for range 1 + d.below(3) {
			text = turned(text, d.below(8*len(text)))
		}
		checkReadCommand(t, "turned", text)
	}
}
