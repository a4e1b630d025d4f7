package tests

import (
	"fmt"
	"reflect"
	"runtime"
	"slices"
	"strings"
	"sync"
	"testing"

	"loop.example/g00224/impl"
)

// manyScripts are texts, scripts and others.
func manyScripts() map[string]string {
	l := map[string]string{
		"empty":            "",
		"a byte 10":        "\n",
		"one line":         "scan\n",
		"no byte 10":       "scan",
		"noughts":          "\x00\x00\n\x00",
		"blanks":           " \n  \n",
		"other ends":       "scan\r\nscan\r\n",
		"not plain":        "\xff\xfe\n\x80\n",
		"the greatest":     sized(2499) + "\n",
		"too long":         sized(2500) + "\n",
		"too many lines":   strings.Repeat("\n", 101),
		"busy":             scriptOf(busy()...),
		"good lines":       scriptOf(append(busy(), goodLines()...)...),
		"a full list":      scriptOf(putLines(60)...),
		"committed":        scriptOf(committed("command 0 1 1 a x", "command 0 2 1 b y")...),
		"a full net":       scriptOf(append(leading(), linesFrom(60, func(int) string { return "double 0" })...)...),
		"many tables":      scriptOf(slices.Concat(putLines(60), []string{"flush", "compact 0", "put a 1", "flush", "put b 2"})...),
		"messages doubled": scriptOf(slices.Concat(leading(), []string{"command 0 1 1 k v", "propose 0 x", "send 0 1 9", "double 1", "double 1", "deliver 1", "double 2"})...),
	}
	for seed := range 30 {
		d := dealingOf(seed)
		l[fmt.Sprint("drawn ", seed)] = scriptOf(d.script(80)...)
		l[fmt.Sprint("mixed ", seed)] = mixed(d.below(400), seed) + "\n"
		l[fmt.Sprint("odd ", seed)] = scriptOf(linesFrom(60, func(int) string { return d.oddLine() })...)
	}
	return l
}

func TestManyScripts(t *testing.T) {
	for name, text := range manyScripts() {
		checkScript(t, name, text)
	}
}

// A text that is turned or cut anywhere is answered as the document says of it.
func TestScriptsThatAreTurnedAndCut(t *testing.T) {
	text := scriptOf(append(busy(), "get k", "compact 0 1", "send 0 1 1", "command 0 1 1 k v w", "role 0", "state 1", "scan")...)
	for bit := range 8 * len(text) {
		if t.Failed() {
			return
		}
		checkScript(t, "turned", turned(text, bit))
	}
	for at := range len(text) + 1 {
		if t.Failed() {
			return
		}
		checkScript(t, "cut", text[:at])
		checkScript(t, "cut ahead", text[at:])
		checkScript(t, "without one", text[:max(0, at-1)]+text[at:])
		checkScript(t, "with a byte 10", text[:at]+"\n"+text[at:])
	}
}

// All short texts of a few bytes.
func TestAllShortTexts(t *testing.T) {
	few := []string{"", " ", "\n", "0", "x", "\xff", "put", "del", "get", "scan", "flush", "compact", "timeout", "role"}
	for _, a := range few {
		for _, b := range few {
			for _, c := range few {
				if t.Failed() {
					return
				}
				for _, d := range few {
					checkScript(t, "short", a+b+c+d)
					checkScript(t, "short", a+" "+b+" "+c+d+"\n")
				}
			}
		}
	}
}

// What is answered shares no memory, has nothing behind it, and may be written into.
func TestWhatStoreOfTellsMayBeWrittenInto(t *testing.T) {
	for name, text := range manyScripts() {
		want, x, is := scriptByHand(text)
		var spans []span
		var told []calledStore
		for i := range 3 {
			e, c, ok := impl.StoreOf(text)
			told = append(told, calledStore{e, c})
			if ok != is || is && (!sameEngine(e, x.k.engine()) || !sameCluster(c, x.c)) {
				t.Errorf("%s: time %d: %v %s %s", name, i, ok, briefly(e), shown(c))
			}
			wantNothingBehindEngine(t, name, e)
			wantNothingBehindCluster(t, name, c)
			spans = append(spans, spansOf(fmt.Sprint("engine ", i), reflect.ValueOf(e))...)
			spans = append(spans, spansOf(fmt.Sprint("cluster ", i), reflect.ValueOf(c))...)
			wantApart(t, name, spans)
			scribbleEngine(e)
			scribbleCluster(c)
			if got := impl.RunStore(text); got != want {
				t.Errorf("%s: RunStore, time %d: %s", name, i, unlikeAnswers(text, got, want))
			}
		}
		// What was told has to stay where it is until then: what comes next may lie there otherwise.
		runtime.KeepAlive(told)
	}
	// What any function makes anew is not changed either.
	c, ok := impl.NewCluster(3)
	wantCluster(t, "NewCluster", c, ok, newCluster(3))
	wantEngine(t, "NewEngine", impl.NewEngine(), true, newKept())
}

// A later script begins anew, whatever came ahead.
func TestScriptsDoNotHangOnEachOther(t *testing.T) {
	texts := manyScripts()
	want := map[string]string{}
	for name, text := range texts {
		want[name], _, _ = scriptByHand(text)
	}
	for range 3 {
		for name, text := range texts {
			if got := impl.RunStore(text); got != want[name] {
				t.Errorf("%s: %s", name, unlikeAnswers(text, got, want[name]))
			}
		}
	}
}

func TestScriptsAnswerAlikeBesideOthers(t *testing.T) {
	texts := manyScripts()
	faults := make([]string, 8)
	var all sync.WaitGroup
	for i := range faults {
		all.Go(func() {
			for name, text := range texts {
				want, x, is := scriptByHand(text)
				e, c, ok := impl.StoreOf(text)
				if impl.RunStore(text) != want || ok != is || is && (!sameEngine(e, x.k.engine()) || !sameCluster(c, x.c)) {
					faults[i] = name
				}
			}
		})
	}
	all.Wait()
	for _, name := range faults {
		if name != "" {
			t.Errorf("beside others: %s", name)
		}
	}
}
