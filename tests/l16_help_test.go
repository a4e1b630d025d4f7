package tests

import (
	"fmt"
	"regexp"
	"slices"
	"strconv"
	"strings"
	"testing"

	"loop.example/g00224/impl"
)

// scriptOf puts a byte 10 behind each line.
func scriptOf(lines ...string) string {
	var text strings.Builder
	for _, line := range lines {
		text.WriteString(line + "\n")
	}
	return text.String()
}

// linesOf are the lines of a script, or the answers to them.
func linesOf(text string) []string {
	return slices.Collect(strings.SplitSeq(strings.TrimSuffix(text, "\n"), "\n"))[:strings.Count(text, "\n")]
}

// A toldLine is a line of a script, taken apart.
type toldLine struct {
	name    string
	key     string
	value   string
	numbers []int
}

// A linePattern is one way in which a line may read: kinds tells what each of its groups is.
type linePattern struct {
	name  string
	kinds string
	is    *regexp.Regexp
}

var linePatterns = patternsOf("put K V", "del K", "get K", "get K N", "scan", "flush", "compact N", "compact N N", "timeout N", "crash N", "deliver N", "lose N", "double N",
	"send N N N", "propose N V", "command N N N K V", "state N", "role N")

func patternsOf(forms ...string) []linePattern {
	var l []linePattern
	for _, form := range forms {
		name, _, _ := strings.Cut(form, " ")
		kinds := strings.ReplaceAll(strings.TrimPrefix(form, name), " ", "")
		is := strings.NewReplacer("K", "([^ ]+)", "V", "(.*)", "N", "(0|[1-9][0-9]{0,8})").Replace(form)
		l = append(l, linePattern{name, kinds, regexp.MustCompile(`(?s)\A` + is + `\z`)})
	}
	return l
}

// What follows does by the document's words, without the program's functions, what a script does.

func lineByHand(line string) (toldLine, bool) {
	for _, p := range linePatterns {
		groups := p.is.FindStringSubmatch(line)
		if groups == nil {
			continue
		}
		x := toldLine{name: p.name}
		for i, kind := range p.kinds {
			word := groups[i+1]
			switch kind {
			case 'K':
				x.key = word
			case 'V':
				x.value = word
			default:
				n, _ := strconv.Atoi(word)
				x.numbers = append(x.numbers, n)
			}
		}
		return x, true
	}
	return toldLine{}, false
}

func isScriptByHand(text string) bool {
	return len(text) <= 2500 && strings.Count(text, "\n") <= 100 && (text == "" || text[len(text)-1] == '\n')
}

// A scripted is what a script is about: an engine, told by its items, and a cluster.
type scripted struct {
	k kept
	c impl.Cluster
}

func newScripted() scripted {
	return scripted{newKept(), newCluster(3)}
}

// scriptByHand answers what a script answers, and what is there behind it.
func scriptByHand(text string) (string, scripted, bool) {
	if !isScriptByHand(text) {
		return "", scripted{}, false
	}
	x := newScripted()
	var answers []string
	for _, line := range linesOf(text) {
		answers = append(answers, x.answerByHand(line))
	}
	return scriptOf(answers...), x, true
}

func (x *scripted) answerByHand(line string) string {
	l, is := lineByHand(line)
	if !is {
		return "what"
	}
	switch l.name {
	case "put", "del", "get", "scan", "flush", "compact":
		return x.engineByHand(l)
	}
	return x.clusterByHand(l)
}

func (x *scripted) engineByHand(l toldLine) string {
	switch l.name {
	case "put":
		return x.keptByHand("seq")(x.k.written(setTo(l.key, l.value)))
	case "del":
		return x.keptByHand("seq")(x.k.written(unset(l.key)))
	case "flush":
		return x.keptByHand("files")(x.k.flushed())
	case "compact":
		return x.keptByHand("files")(x.k.compacted(l.numbers[0], append(l.numbers, x.k.seq)[1]))
	case "scan":
		return cellsByHand(pairsByHand(x.k.all(), "", "", x.k.seq))
	}
	seq := append(l.numbers, x.k.seq)[0]
	if !isKeyByHand(l.key) || seq > x.k.seq {
		return "no"
	}
	if item, seen := seenByHand(x.k.all(), l.key, seq); seen && item.Kind == impl.KindPut {
		return "value " + item.Value
	}
	return "none"
}

// keptByHand takes what is told where it is told with true.
func (x *scripted) keptByHand(word string) func(next kept, ok bool) string {
	return func(next kept, ok bool) string {
		if !ok {
			return "no"
		}
		x.k = next
		if word == "seq" {
			return fmt.Sprint("seq ", next.seq)
		}
		return fmt.Sprint("files ", len(next.files))
	}
}

func cellsByHand(l []impl.Pair) string {
	answer := "cells"
	for _, p := range l {
		answer += " " + p.Key + "=" + p.Value
	}
	return answer
}

func (l toldLine) clusterStep() impl.ClusterStep {
	switch n := l.numbers; l.name {
	case "timeout":
		return timeoutOf(n[0])
	case "crash":
		return crashOf(n[0])
	case "deliver":
		return deliver(n[0])
	case "lose":
		return lose(n[0])
	case "double":
		return double(n[0])
	case "send":
		return send(n[0], n[1], n[2])
	default:
		return proposeTo(n[0], l.value)
	}
}

func (l toldLine) put() impl.Command {
	return putting(l.numbers[1], l.numbers[2], l.key, l.value)
}

func (x *scripted) clusterByHand(l toldLine) string {
	node := l.numbers[0]
	switch l.name {
	case "command":
		next, index, ok := submitByHand(x.c, node, l.put())
		if !ok {
			return "no"
		}
		x.c = next
		return fmt.Sprint("index ", index)
	case "state":
		s, ok := stateOfNodeByHand(x.c, node)
		if !ok {
			return "no"
		}
		return cellsByHand(s.Cells)
	case "role":
		if node > 2 {
			return "no"
		}
		n := x.c.Nodes[node]
		return fmt.Sprint("role ", n.Role, " ", n.Term, " ", n.Commit)
	}
	next, ok := clusterStepByHand(x.c, l.clusterStep())
	if !ok {
		return "no"
	}
	x.c = next
	return fmt.Sprint("net ", len(next.Net))
}

// What follows asks the program.

// A calledStore is what the calls of the chapters ahead make, one behind another, of a script's lines.
type calledStore struct {
	e impl.Engine
	c impl.Cluster
}

func newCalledStore() calledStore {
	c, _ := impl.NewCluster(3)
	return calledStore{impl.NewEngine(), c}
}

func (x *calledStore) call(line string) {
	l, is := lineByHand(line)
	if !is {
		return
	}
	switch l.name {
	case "put":
		x.engineIfTrue(impl.WriteBatch(x.e, []impl.Write{setTo(l.key, l.value)}))
	case "del":
		x.engineIfTrue(impl.WriteBatch(x.e, []impl.Write{unset(l.key)}))
	case "flush":
		x.engineIfTrue(impl.FlushEngine(x.e))
	case "compact":
		x.engineIfTrue(impl.CompactEngine(x.e, l.numbers[0], append(l.numbers, x.e.Seq)[1]))
	case "command":
		next, _, ok := impl.SubmitCommand(x.c, l.numbers[0], l.put())
		x.clusterIfTrue(next, ok)
	case "timeout", "crash", "deliver", "lose", "double", "send", "propose":
		x.clusterIfTrue(impl.StepCluster(x.c, l.clusterStep()))
	}
}

func (x *calledStore) engineIfTrue(e impl.Engine, ok bool) {
	if ok {
		x.e = e
	}
}

func (x *calledStore) clusterIfTrue(c impl.Cluster, ok bool) {
	if ok {
		x.c = c
	}
}

// checkScript holds both functions against the document's words, and against the calls of the chapters ahead.
func checkScript(t *testing.T, what string, text string) string {
	t.Helper()
	what += ": " + shown(text)
	want, x, is := scriptByHand(text)
	got := impl.RunStore(text)
	if got != want {
		t.Errorf("%s: RunStore: %s", what, unlikeAnswers(text, got, want))
	}
	e, c, ok := impl.StoreOf(text)
	if !is {
		wantNoEngine(t, what+": StoreOf", e, ok)
		wantNoCluster(t, what+": StoreOf", c, ok)
		return got
	}
	wantEngine(t, what+": StoreOf", e, ok, x.k)
	wantCluster(t, what+": StoreOf", c, ok, x.c)
	wantNothingBehindEngine(t, what+": StoreOf", e)
	made := newCalledStore()
	for _, line := range linesOf(text) {
		made.call(line)
	}
	if !sameEngine(e, made.e) || !sameCluster(c, made.c) {
		t.Errorf("%s: StoreOf tells something else than the calls make", what)
	}
	return got
}

// unlikeAnswers tells the first answer that is another one.
func unlikeAnswers(text string, got string, want string) string {
	told, wanted, lines := linesOf(got), linesOf(want), linesOf(text)
	for i := range min(len(told), len(wanted), len(lines)) {
		if told[i] != wanted[i] {
			return fmt.Sprintf("line %d, %.60q: %.200q, want %.200q", i, lines[i], told[i], wanted[i])
		}
	}
	return fmt.Sprintf("%d bytes %.100q, want %d bytes %.100q", len(got), got, len(want), want)
}

// wantTalk asks for lines and their answers, one behind another in turn.
func wantTalk(t *testing.T, what string, talk ...string) {
	t.Helper()
	wantTalkBehind(t, what, nil, talk...)
}

// wantTalkBehind asks for the same behind other lines.
func wantTalkBehind(t *testing.T, what string, ahead []string, talk ...string) {
	t.Helper()
	lines := slices.Clone(ahead)
	var want []string
	for i := 0; i < len(talk); i += 2 {
		lines, want = append(lines, talk[i]), append(want, talk[i+1])
	}
	got := linesOf(checkScript(t, what, scriptOf(lines...)))
	if len(got) != len(lines) {
		t.Errorf("%s: %d answers to %d lines", what, len(got), len(lines))
		return
	}
	for i, answer := range got[len(ahead):] {
		if answer != want[i] {
			t.Errorf("%s: line %d, %.80q: %.200q, want %.200q", what, i, talk[2*i], answer, want[i])
		}
	}
}

func wantNoScript(t *testing.T, what string, text string) {
	t.Helper()
	if got := impl.RunStore(text); got != "" {
		t.Errorf("%s: RunStore: %s, want nothing", what, shown(got))
	}
	e, c, ok := impl.StoreOf(text)
	wantNoEngine(t, what+": StoreOf", e, ok)
	wantNoCluster(t, what+": StoreOf", c, ok)
	checkScript(t, what, text)
}

// linesFrom are a line for each number below many.
func linesFrom(many int, line func(i int) string) []string {
	var l []string
	for i := range many {
		l = append(l, line(i))
	}
	return l
}

// putLines are puts of unlike keys.
func putLines(many int) []string {
	return linesFrom(many, func(i int) string { return fmt.Sprintf("put %s v%d", numbered(i), i) })
}

// leading lets node 0 lead in term 1, by the vote of node 1; the message that asks node 2 is left.
func leading() []string {
	return []string{"timeout 0", "deliver 0", "deliver 1"}
}

// What follows draws lines.

func (d *dealing) oneOf(l ...string) string {
	return l[d.below(len(l))]
}

// small is a number below most, mostly.
func (d *dealing) small(most int) string {
	if d.below(10) == 0 {
		return d.oneOf("3", "7", "60", "1000", "999999999")
	}
	return strconv.Itoa(d.below(most))
}

func (d *dealing) lineKey() string {
	if d.below(12) == 0 {
		return d.oneOf(sized(16), sized(17), sized(17), "\xff\x80", "=", "\x00", "\t", "a=b")
	}
	return d.oneOf("a", "b", "bb", "c", "d", "e")
}

func (d *dealing) lineValue() string {
	if d.below(15) == 0 {
		return d.oneOf(sized(40), sized(41), " ", " v", "v ", "v  w", "\xfe\xff", "\r", "a=b c=d")
	}
	return d.oneOf("", "1", "2", "v", "v w")
}

func (d *dealing) engineLine() string {
	switch d.below(12) {
	case 0, 1, 2, 3:
		return "put " + d.lineKey() + " " + d.lineValue()
	case 4, 5:
		return "del " + d.lineKey()
	case 6:
		return "get " + d.lineKey()
	case 7:
		return "get " + d.lineKey() + " " + d.small(20)
	case 8:
		return "scan"
	case 9:
		return "flush"
	case 10:
		return "compact " + d.small(3)
	default:
		return "compact " + d.small(3) + " " + d.small(20)
	}
}

func (d *dealing) clusterLine() string {
	switch d.below(40) {
	case 0:
		return "timeout " + d.oneOf("1", d.small(3))
	case 1:
		return "crash " + d.oneOf("1", d.small(3))
	case 2:
		return "lose " + d.small(3)
	case 3, 4:
		return "double " + d.small(3)
	case 5, 6:
		return "propose " + d.oneOf("0", d.small(2)) + " " + d.lineValue()
	case 7, 8, 9, 10, 11, 12:
		return "command " + d.oneOf("0", d.small(2)) + " " + d.small(3) + " " + d.small(9) + " " + d.lineKey() + " " + d.lineValue()
	case 13, 14, 15, 16, 17, 18:
		return "send " + d.oneOf("0 1", "0 1", "0 2", "0 2", d.small(3)+" "+d.small(3)) + " " + d.small(6)
	case 19, 20, 21:
		return "state " + d.small(3)
	case 22, 23:
		return "role " + d.small(3)
	default:
		return "deliver " + d.oneOf("0", "0", d.small(3))
	}
}

// oddLine has something wrong in it, mostly.
func (d *dealing) oddLine() string {
	line := d.oneOf(d.engineLine(), d.clusterLine())
	at := d.below(len(line) + 1)
	switch d.below(8) {
	case 0:
		return line[:at]
	case 1:
		return line[:at] + " " + line[at:]
	case 2:
		return line + " " + d.oneOf("x", "0", "")
	case 3:
		return line[:at] + d.oneOf("0", "-", "+", "\xff", "\r", "_", "é") + line[at:]
	case 4:
		return strings.Replace(line, " ", "", 1)
	case 5:
		return strings.ToUpper(line[:1]) + line[1:]
	case 6:
		return strings.ReplaceAll(mixed(d.below(30), d.below(1000)), "\n", "?")
	default:
		return d.oneOf("", " ", "what", "no", "puts a b", "pu a b", "scan scan", "0", "role")
	}
}

// script is one of at most so many lines of every kind, with node 0 leading from the first ones on, mostly.
func (d *dealing) script(most int) []string {
	var l []string
	if d.below(3) > 0 {
		l = leading()
	}
	mostly := d.below(3)
	for len(l) < most {
		line := d.clusterLine()
		if d.below(3) < mostly {
			line = d.engineLine()
		}
		if d.below(12) == 0 {
			line = d.oddLine()
		}
		if l = append(l, line); len(scriptOf(l...)) > 2500 {
			return l[:len(l)-1]
		}
	}
	return l
}
