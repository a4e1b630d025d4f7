package tests

import (
	"fmt"
	"math"
	"slices"
	"strings"
	"testing"

	"loop.example/g00224/impl"
)

const greatestNumber = 100000
const greatestNext = 100001

func meta(number int, level int, least string, most string) impl.Meta {
	return impl.Meta{Number: number, Level: level, Least: least, Most: most}
}

func version(next int, seq int, l ...impl.Meta) impl.Version {
	return impl.Version{Next: next, Seq: seq, Metas: l}
}

func edit(next int, seq int, drop []int, add ...impl.Meta) impl.Edit {
	return impl.Edit{Next: next, Seq: seq, Drop: drop, Add: add}
}

func sameVersion(a impl.Version, b impl.Version) bool {
	return a.Next == b.Next && a.Seq == b.Seq && slices.Equal(a.Metas, b.Metas)
}

func sameEdit(a impl.Edit, b impl.Edit) bool {
	return a.Next == b.Next && a.Seq == b.Seq && slices.Equal(a.Drop, b.Drop) && slices.Equal(a.Add, b.Add)
}

func copiedVersion(v impl.Version) impl.Version {
	return version(v.Next, v.Seq, slices.Clone(v.Metas)...)
}

// withMeta is a version with a meta more, at its place by Number; the version is left as it is.
func withMeta(v impl.Version, m impl.Meta) impl.Version {
	at := 0
	for at < len(v.Metas) && v.Metas[at].Number < m.Number {
		at++
	}
	return version(v.Next, v.Seq, slices.Insert(slices.Clone(v.Metas), at, m)...)
}

func numbersOf(l []impl.Meta) []int {
	var out []int
	for _, m := range l {
		out = append(out, m.Number)
	}
	return out
}

// rowOfMetas are n metas with the numbers from first on, on one level, side by side.
func rowOfMetas(n int, first int, level int) []impl.Meta {
	var l []impl.Meta
	for i := range n {
		l = append(l, meta(first+i, level, fmt.Sprintf("%03da", i), fmt.Sprintf("%03dz", i)))
	}
	return l
}

// on is a version with so many metas on each level.
func on(many ...int) impl.Version {
	var l []impl.Meta
	for level, n := range many {
		l = append(l, rowOfMetas(n, len(l)+1, level)...)
	}
	return version(len(l)+1, 0, l...)
}

// What good is, by the document's words, looked for one after the other.

func isKeyByHand(s string) bool {
	return len(s) >= 1 && len(s) <= 16
}

func isMetaByHand(m impl.Meta) bool {
	return m.Number >= 1 && m.Number <= 100000 && m.Level >= 0 && m.Level <= 3 && isKeyByHand(m.Least) && isKeyByHand(m.Most) && !(m.Most < m.Least)
}

func areMetasByHand(l []impl.Meta) bool {
	for i, m := range l {
		if !isMetaByHand(m) {
			return false
		}
		for _, ahead := range l[:i] {
			if ahead.Number >= m.Number {
				return false
			}
		}
	}
	return len(l) <= 30
}

func areApart(a impl.Meta, b impl.Meta) bool {
	return a.Most < b.Least || b.Most < a.Least
}

func isVersionByHand(v impl.Version) bool {
	if v.Next < 1 || v.Next > 100001 || v.Seq < 0 || v.Seq > 1000000000 || !areMetasByHand(v.Metas) {
		return false
	}
	for i, a := range v.Metas {
		if a.Number >= v.Next {
			return false
		}
		for j, b := range v.Metas {
			if i != j && a.Level == b.Level && a.Level >= 1 && !areApart(a, b) {
				return false
			}
		}
	}
	return true
}

func isEditByHand(e impl.Edit) bool {
	for i, n := range e.Drop {
		if n < 1 || n > 100000 || i > 0 && n <= e.Drop[i-1] {
			return false
		}
	}
	return e.Next >= 1 && e.Next <= 100001 && e.Seq >= 0 && e.Seq <= 1000000000 && len(e.Drop) <= 30 && areMetasByHand(e.Add)
}

func appliedByHand(v impl.Version, e impl.Edit) (impl.Version, bool) {
	if !isVersionByHand(v) || !isEditByHand(e) || e.Next < v.Next || e.Seq < v.Seq {
		return impl.Version{}, false
	}
	out := version(e.Next, e.Seq)
	for _, n := range e.Drop {
		if !slices.Contains(numbersOf(v.Metas), n) {
			return impl.Version{}, false
		}
	}
	for _, m := range v.Metas {
		if !slices.Contains(e.Drop, m.Number) {
			out = withMeta(out, m)
		}
	}
	for _, m := range e.Add {
		if slices.Contains(numbersOf(out.Metas), m.Number) {
			return impl.Version{}, false
		}
		out = withMeta(out, m)
	}
	if !isVersionByHand(out) {
		return impl.Version{}, false
	}
	return out, true
}

func betweenByHand(a impl.Version, b impl.Version) (impl.Edit, bool) {
	if !isVersionByHand(a) || !isVersionByHand(b) || b.Next < a.Next || b.Seq < a.Seq {
		return impl.Edit{}, false
	}
	e := edit(b.Next, b.Seq, nil)
	for _, m := range a.Metas {
		if !slices.Contains(b.Metas, m) {
			e.Drop = append(e.Drop, m.Number)
		}
	}
	for _, m := range b.Metas {
		if !slices.Contains(a.Metas, m) {
			e.Add = append(e.Add, m)
		}
	}
	return e, true
}

func overlapsByHand(v impl.Version, level int, least string, most string) []int {
	var out []int
	for _, m := range v.Metas {
		if m.Level == level && !areApart(m, meta(0, level, least, most)) {
			out = append(out, m.Number)
		}
	}
	return out
}

func pickByHand(v impl.Version) (int, bool) {
	picked, most, found := 0, 0, false
	for level, may := range []int{2, 4, 6} {
		more := -may
		for _, m := range v.Metas {
			if m.Level == level {
				more++
			}
		}
		if more > 0 && (!found || more > most) {
			picked, most, found = level, more, true
		}
	}
	return picked, found
}

// A toldMeta is what an edit's bytes tell of one meta, its numbers as bytes, so that each may be told wrong.
type toldMeta struct {
	number    string
	level     string
	leastSize string
	least     string
	mostSize  string
	most      string
}

type toldEdit struct {
	next  string
	seq   string
	drops string
	drop  []string
	adds  string
	add   []toldMeta
}

func (m toldMeta) text() string {
	return m.number + m.level + m.leastSize + m.least + m.mostSize + m.most
}

func (e toldEdit) text() string {
	var out strings.Builder
	out.WriteString(e.next + e.seq + e.drops + strings.Join(e.drop, "") + e.adds)
	for _, m := range e.add {
		out.WriteString(m.text())
	}
	return out.String()
}

func toldEditOf(e impl.Edit) toldEdit {
	out := toldEdit{
		next:  numberByLibrary(e.Next),
		seq:   numberByLibrary(e.Seq),
		drops: numberByLibrary(len(e.Drop)),
		adds:  numberByLibrary(len(e.Add)),
	}
	for _, n := range e.Drop {
		out.drop = append(out.drop, numberByLibrary(n))
	}
	for _, m := range e.Add {
		out.add = append(out.add, toldMeta{
			number:    numberByLibrary(m.Number),
			level:     numberByLibrary(m.Level),
			leastSize: numberByLibrary(len(m.Least)),
			least:     m.Least,
			mostSize:  numberByLibrary(len(m.Most)),
			most:      m.Most,
		})
	}
	return out
}

func editByHand(e impl.Edit) string {
	return toldEditOf(e).text()
}

// A dealing tells numbers that hang on its seed alone.
type dealing struct {
	state uint64
}

func dealingOf(seed int) *dealing {
	d := &dealing{state: uint64(seed)*2654435761 + 12345}
	d.below(2)
	return d
}

func (d *dealing) below(n int) int {
	d.state = d.state*6364136223846793005 + 1442695040888963407
	return int(d.state>>33) % n
}

// risingKey tells keys of all sizes, which rise with their number.
func risingKey(n int) string {
	return string([]byte{byte(n / 250), byte(n%250 + 3)}) + mixed(n%15, n)
}

func (d *dealing) meta(number int) impl.Meta {
	least := d.below(300)
	return meta(number, d.below(4), risingKey(least), risingKey(least+d.below(20)))
}

// grown is a version with metas more, as far as they may be there: of so many numbers below Next, and those at Next.
func (d *dealing) grown(v impl.Version, tries int) impl.Version {
	for range tries {
		m := d.meta(1 + d.below(v.Next))
		next := version(max(v.Next, m.Number+1), v.Seq+d.below(5), v.Metas...)
		if grown := withMeta(next, m); isVersionByHand(grown) {
			v = grown
		}
	}
	return v
}

// someVersion has files on every level, and gaps in its numbers.
func someVersion(tries int, seed int) impl.Version {
	return dealingOf(seed).grown(version(1+seed%7*5, seed%3), tries)
}

// laterThan is a version that may follow: some files are gone, some have another level or range, some are new.
func laterThan(v impl.Version, seed int) impl.Version {
	d := dealingOf(seed + 1000)
	later := version(v.Next+d.below(3), v.Seq+d.below(3))
	for _, m := range v.Metas {
		switch d.below(4) {
		case 0:
		case 1:
			if other := withMeta(later, d.meta(m.Number)); isVersionByHand(other) {
				later = other
			}
		default:
			if same := withMeta(later, m); isVersionByHand(same) {
				later = same
			}
		}
	}
	return d.grown(later, d.below(6))
}

// manyVersions are good ones of many kinds.
func manyVersions() map[string]impl.Version {
	l := map[string]impl.Version{
		"new":               version(1, 0),
		"no metas, not nil": {Next: 1, Metas: []impl.Meta{}},
		"no metas, later":   version(7, 9),
		"the greatest":      version(greatestNext, greatestSeq),
		"one":               version(2, 0, meta(1, 0, "a", "b")),
		"one, greatest":     version(greatestNext, greatestSeq, meta(greatestNumber, 3, "a", "a")),
		"edges":             version(greatestNext, 5, meta(1, 1, "\x00", repeated(0, 16)), meta(greatestNumber, 1, repeated(0xff, 16), repeated(0xff, 16))),
		"on top":            version(9, 1, meta(2, 0, "a", "z"), meta(4, 0, "a", "z"), meta(8, 0, "b", "c")),
		"levels alike":      version(9, 1, meta(2, 0, "a", "z"), meta(4, 1, "a", "z"), meta(6, 2, "a", "z"), meta(8, 3, "a", "z")),
		"side by side":      version(9, 1, meta(2, 1, "c", "e"), meta(4, 1, "a", "b"), meta(6, 1, "f", "h")),
		"full, level 0":     version(31, 3, rowOfMetas(30, 1, 0)...),
		"full, level 1":     version(31, 3, rowOfMetas(30, 1, 1)...),
		"full, the last":    version(greatestNext, 3, rowOfMetas(30, greatestNumber-29, 3)...),
		"full, all levels":  on(8, 8, 8, 6),
		"two a level":       on(2, 2, 2, 2),
		"three a level":     on(3, 3, 3, 3),
	}
	for n := range 20 {
		v := someVersion(4*n, n)
		l[fmt.Sprint("some ", n)] = v
		l[fmt.Sprint("later ", n)] = laterThan(v, n)
	}
	return l
}

// wrongMetas miss one condition each.
func wrongMetas() map[string]impl.Meta {
	return map[string]impl.Meta{
		"number 0":            meta(0, 1, "a", "b"),
		"number below 0":      meta(-1, 1, "a", "b"),
		"number least":        meta(math.MinInt, 1, "a", "b"),
		"number beyond":       meta(greatestNumber+1, 1, "a", "b"),
		"number greatest":     meta(math.MaxInt, 1, "a", "b"),
		"level below 0":       meta(5, -1, "a", "b"),
		"level beyond":        meta(5, 4, "a", "b"),
		"level least":         meta(5, math.MinInt, "a", "b"),
		"level greatest":      meta(5, math.MaxInt, "a", "b"),
		"least empty":         meta(5, 1, "", "b"),
		"least of 17":         meta(5, 1, repeated(1, 17), "b"),
		"least of many":       meta(5, 1, repeated(1, 5000), "b"),
		"most empty":          meta(5, 1, "a", ""),
		"most of 17":          meta(5, 1, "a", sized(17)),
		"most of many":        meta(5, 1, "a", sized(5000)),
		"both empty":          meta(5, 1, "", ""),
		"least above":         meta(5, 1, "b", "a"),
		"least above, by one": meta(5, 1, "a\x00", "a"),
		"least above, 0xff":   meta(5, 1, "\xff", "\x7f"),
		"least above, size":   meta(5, 1, repeated(1, 16), repeated(1, 15)),
		"least above, top":    meta(5, 0, "b", "a"),
		"zero":                {},
	}
}

// badVersions miss one condition each.
func badVersions() map[string]impl.Version {
	l := map[string]impl.Version{
		"zero":                    {},
		"Next 0":                  version(0, 0),
		"Next below 0":            version(-1, 0),
		"Next least":              version(math.MinInt, 0),
		"Next beyond":             version(greatestNext+1, 0),
		"Next greatest":           version(math.MaxInt, 0),
		"Seq below 0":             version(1, -1),
		"Seq least":               version(1, math.MinInt),
		"Seq beyond":              version(1, greatestSeq+1),
		"Seq greatest":            version(1, math.MaxInt),
		"31 on level 0":           version(50, 0, rowOfMetas(31, 1, 0)...),
		"31 on level 2":           version(50, 0, rowOfMetas(31, 1, 2)...),
		"31, on all levels":       on(8, 8, 8, 7),
		"1000":                    version(2000, 0, rowOfMetas(1000, 1, 0)...),
		"a number at Next":        version(5, 0, meta(1, 0, "a", "b"), meta(5, 0, "a", "b")),
		"a number beyond Next":    version(5, 0, meta(6, 1, "a", "b")),
		"a number at Next, alone": version(1, 0, meta(1, 1, "a", "b")),
		"falling":                 version(9, 0, meta(2, 0, "a", "b"), meta(1, 0, "c", "d")),
		"falling, last":           version(9, 0, meta(1, 1, "a", "b"), meta(4, 1, "c", "d"), meta(3, 1, "e", "f")),
		"alike":                   version(9, 0, meta(2, 0, "a", "b"), meta(2, 0, "a", "b")),
		"numbers alike":           version(9, 0, meta(2, 1, "a", "b"), meta(2, 2, "c", "d")),
		"numbers alike, apart":    version(9, 0, meta(2, 0, "a", "b"), meta(3, 0, "a", "b"), meta(2, 0, "c", "d")),
	}
	for level := 1; level <= 3; level++ {
		l[fmt.Sprint("one key in common on ", level)] = version(9, 0, meta(1, level, "a", "c"), meta(2, level, "c", "e"))
		l[fmt.Sprint("in common, far apart, on ", level)] = version(9, 0, meta(1, level, "m", "p"), meta(2, level, "a", "b"), meta(3, 0, "a", "z"), meta(8, level, "p", "z"))
	}
	for name, m := range wrongMetas() {
		l["meta: "+name] = version(greatestNext, 0, m)
		l["meta last: "+name] = version(greatestNext, 0, meta(1, 1, "x", "z"), meta(4, 2, "a", "z"), m)
		l["meta first: "+name] = version(greatestNext, 0, m, meta(6, 1, "x", "z"))
	}
	return l
}

// manyEdits are good ones of many kinds, whether they may be applied or not.
func manyEdits() map[string]impl.Edit {
	l := map[string]impl.Edit{
		"nothing":          edit(1, 0, nil),
		"nothing, not nil": {Next: 1, Drop: []int{}, Add: []impl.Meta{}},
		"the greatest":     edit(greatestNext, greatestSeq, nil),
		"a drop":           edit(2, 1, []int{1}),
		"greatest drop":    edit(2, 1, []int{greatestNumber}),
		"an add":           edit(2, 1, nil, meta(1, 0, "a", "b")),
		"greatest add":     edit(2, 1, nil, meta(greatestNumber, 3, repeated(0xff, 16), repeated(0xff, 16))),
		"drop and add":     edit(9, 5, []int{1, 2}, meta(1, 2, "a", "b"), meta(8, 2, "a", "c")),
		"beyond Next":      edit(2, 5, []int{50}, meta(2, 1, "a", "b"), meta(90, 1, "a", "b")),
		"one range":        edit(9, 5, nil, meta(1, 1, "a", "b"), meta(2, 1, "a", "b")),
		"numbers' sizes":   edit(127, 128, []int{1, 127, 128, 16383, 16384, 100000}, meta(127, 0, "a", "b"), meta(128, 1, "a", "b"), meta(16383, 2, "a", "b"), meta(16384, 3, "a", "b")),
		"full drop":        edit(40, 5, numbersOf(rowOfMetas(30, 1, 0))),
		"full add":         edit(40, 5, nil, rowOfMetas(30, 1, 1)...),
		"full both":        edit(greatestNext, 5, numbersOf(rowOfMetas(30, greatestNumber-29, 0)), rowOfMetas(30, 7, 2)...),
		"noughts":          edit(1, 0, nil, meta(1, 0, "\x00", "\x00"), meta(2, 0, repeated(0, 16), repeated(0, 16))),
	}
	for n := range 20 {
		a := someVersion(3*n, n)
		e, _ := betweenByHand(a, laterThan(a, n))
		l[fmt.Sprint("between ", n)] = e
		b := someVersion(2*n, n)
		l[fmt.Sprint("all of ", n)] = edit(b.Next, b.Seq, numbersOf(a.Metas), b.Metas...)
	}
	return l
}

// badEdits miss one condition each.
func badEdits() map[string]impl.Edit {
	l := map[string]impl.Edit{
		"zero":              {},
		"Next 0":            edit(0, 5, nil),
		"Next below 0":      edit(-1, 5, nil),
		"Next least":        edit(math.MinInt, 5, nil),
		"Next beyond":       edit(greatestNext+1, 5, nil),
		"Next greatest":     edit(math.MaxInt, 5, nil),
		"Seq below 0":       edit(5, -1, nil),
		"Seq least":         edit(5, math.MinInt, nil),
		"Seq beyond":        edit(5, greatestSeq+1, nil),
		"Seq greatest":      edit(5, math.MaxInt, nil),
		"drop 0":            edit(5, 5, []int{0}),
		"drop 0, first":     edit(5, 5, []int{0, 1}),
		"drop below 0":      edit(5, 5, []int{-1, 1}),
		"drop least":        edit(5, 5, []int{math.MinInt}),
		"drop beyond":       edit(5, 5, []int{1, greatestNumber + 1}),
		"drop greatest":     edit(5, 5, []int{math.MaxInt}),
		"drop falling":      edit(5, 5, []int{2, 1}),
		"drop twice":        edit(5, 5, []int{1, 1}),
		"drop falling last": edit(5, 5, []int{1, 4, 3}),
		"31 drops":          edit(50, 5, numbersOf(rowOfMetas(31, 1, 0))),
		"1000 drops":        edit(50, 5, numbersOf(rowOfMetas(1000, 1, 0))),
		"31 adds":           edit(50, 5, nil, rowOfMetas(31, 1, 0)...),
		"1000 adds":         edit(2000, 5, nil, rowOfMetas(1000, 1, 0)...),
		"adds falling":      edit(9, 5, nil, meta(2, 0, "a", "b"), meta(1, 0, "a", "b")),
		"add twice":         edit(9, 5, nil, meta(2, 0, "a", "b"), meta(2, 0, "a", "b")),
		"add twice, unlike": edit(9, 5, nil, meta(2, 0, "a", "b"), meta(2, 1, "c", "d")),
	}
	for name, m := range wrongMetas() {
		l["add: "+name] = edit(greatestNext, 5, nil, m)
		l["add last: "+name] = edit(greatestNext, 5, []int{1}, meta(1, 1, "x", "z"), m)
		l["add first: "+name] = edit(greatestNext, 5, nil, m, meta(6, 1, "x", "z"))
	}
	return l
}

func wantVersion(t *testing.T, what string, got impl.Version, ok bool, want impl.Version) {
	t.Helper()
	if !ok || !sameVersion(got, want) {
		t.Errorf("%s: %s %v, want %s", what, shown(got), ok, shown(want))
	}
	if ok && !impl.GoodVersion(got) {
		t.Errorf("%s: the version %s is not good", what, shown(got))
	}
}

func wantNoVersion(t *testing.T, what string, got impl.Version, ok bool) {
	t.Helper()
	if ok || !sameVersion(got, impl.Version{}) {
		t.Errorf("%s: %s %v, want nothing", what, shown(got), ok)
	}
}

func wantApplied(t *testing.T, what string, v impl.Version, e impl.Edit, want impl.Version) {
	t.Helper()
	got, ok := impl.ApplyEdit(v, e)
	wantVersion(t, fmt.Sprintf("%s: ApplyEdit %s %s", what, shown(v), shown(e)), got, ok, want)
}

func wantNotApplied(t *testing.T, what string, v impl.Version, e impl.Edit) {
	t.Helper()
	got, ok := impl.ApplyEdit(v, e)
	wantNoVersion(t, fmt.Sprintf("%s: ApplyEdit %s %s", what, shown(v), shown(e)), got, ok)
}

// checkApplied asks for what the document's words give, one after the other.
func checkApplied(t *testing.T, what string, v impl.Version, e impl.Edit) bool {
	t.Helper()
	want, ok := appliedByHand(v, e)
	if ok {
		wantApplied(t, what, v, e, want)
	} else {
		wantNotApplied(t, what, v, e)
	}
	return ok
}

func wantEdit(t *testing.T, what string, got impl.Edit, ok bool, want impl.Edit) {
	t.Helper()
	if !ok || !sameEdit(got, want) {
		t.Errorf("%s: %s %v, want %s", what, shown(got), ok, shown(want))
	}
}

func wantNoEdit(t *testing.T, what string, got impl.Edit, ok bool) {
	t.Helper()
	if ok || !sameEdit(got, impl.Edit{}) {
		t.Errorf("%s: %s %v, want nothing", what, shown(got), ok)
	}
}

func wantBetween(t *testing.T, what string, a impl.Version, b impl.Version, want impl.Edit) {
	t.Helper()
	got, ok := impl.EditBetween(a, b)
	wantEdit(t, fmt.Sprintf("%s: EditBetween %s %s", what, shown(a), shown(b)), got, ok, want)
}

func wantNoBetween(t *testing.T, what string, a impl.Version, b impl.Version) {
	t.Helper()
	got, ok := impl.EditBetween(a, b)
	wantNoEdit(t, fmt.Sprintf("%s: EditBetween %s %s", what, shown(a), shown(b)), got, ok)
}

// wantEditBytes asks for the bytes of an edit, and for the edit from its bytes.
func wantEditBytes(t *testing.T, what string, e impl.Edit, want string) {
	t.Helper()
	if s, ok := impl.EditBytes(e); s != want || !ok {
		t.Errorf("%s: EditBytes %s: %.80q %v, want %.80q", what, shown(e), s, ok, want)
	}
	got, ok := impl.ReadEdit(want)
	wantEdit(t, what+": ReadEdit", got, ok, e)
}

func wantNoEditBytes(t *testing.T, what string, e impl.Edit) {
	t.Helper()
	if s, ok := impl.EditBytes(e); s != "" || ok {
		t.Errorf("%s: EditBytes: %.80q %v, want nothing", what, s, ok)
	}
}

func wantNotRead(t *testing.T, what string, s string) {
	t.Helper()
	got, ok := impl.ReadEdit(s)
	wantNoEdit(t, fmt.Sprintf("%s: ReadEdit(%.80q)", what, s), got, ok)
}

// wantReadOrNone asks that what is read is good and has just these bytes; it tells whether something is.
func wantReadOrNone(t *testing.T, what string, s string) bool {
	t.Helper()
	e, ok := impl.ReadEdit(s)
	if !ok {
		wantNoEdit(t, what+": ReadEdit", e, ok)
		return false
	}
	if !isEditByHand(e) || editByHand(e) != s || len(s) > 1000 {
		t.Errorf("%s: ReadEdit(%.80q): %s, whose bytes these are not", what, s, shown(e))
	}
	return true
}

func wantRecovered(t *testing.T, what string, s string, want impl.Version, many int) {
	t.Helper()
	got, n, ok := impl.RecoverVersion(s)
	if n != many {
		t.Errorf("%s: RecoverVersion applied %d edits, want %d", what, n, many)
	}
	wantVersion(t, what+": RecoverVersion", got, ok, want)
}

func wantOverlaps(t *testing.T, what string, v impl.Version, level int, least string, most string, want ...int) {
	t.Helper()
	if l, ok := impl.OverlapsIn(v, level, least, most); !slices.Equal(l, want) || !ok {
		t.Errorf("%s: OverlapsIn %s %d %q %q: %v %v, want %v", what, shown(v), level, least, most, l, ok, want)
	}
}

func wantNoOverlaps(t *testing.T, what string, v impl.Version, level int, least string, most string) {
	t.Helper()
	if l, ok := impl.OverlapsIn(v, level, least, most); len(l) != 0 || ok {
		t.Errorf("%s: OverlapsIn %s %d %.40q %.40q: %v %v, want nothing", what, shown(v), level, least, most, l, ok)
	}
}

func wantPick(t *testing.T, what string, v impl.Version, want int) {
	t.Helper()
	if level, ok := impl.PickLevel(v); level != want || !ok {
		t.Errorf("%s: PickLevel %s: %d %v, want %d", what, shown(v), level, ok, want)
	}
}

func wantNoPick(t *testing.T, what string, v impl.Version) {
	t.Helper()
	if level, ok := impl.PickLevel(v); level != 0 || ok {
		t.Errorf("%s: PickLevel %s: %d %v, want nothing", what, shown(v), level, ok)
	}
}

func wantGoodVersion(t *testing.T, what string, v impl.Version) {
	t.Helper()
	if !impl.GoodVersion(v) {
		t.Errorf("%s: GoodVersion %s: false", what, shown(v))
	}
	wantApplied(t, what+", nothing done", v, edit(v.Next, v.Seq, nil), v)
}

// wantBadVersion asks every function for the answer that what is no good version gets; and no edit makes one.
func wantBadVersion(t *testing.T, what string, v impl.Version) {
	t.Helper()
	if impl.GoodVersion(v) {
		t.Errorf("%s: GoodVersion %s: true", what, shown(v))
	}
	greatest := version(greatestNext, greatestSeq)
	wantNotApplied(t, what, v, edit(greatestNext, greatestSeq, nil))
	wantNotApplied(t, what, v, edit(v.Next, v.Seq, nil))
	wantNotApplied(t, what, v, edit(greatestNext, greatestSeq, numbersOf(v.Metas)))
	wantNotApplied(t, what+", as what would be", version(1, 0), edit(v.Next, v.Seq, nil, v.Metas...))
	wantNoBetween(t, what+", first", v, greatest)
	wantNoBetween(t, what+", second", version(1, 0), v)
	wantNoBetween(t, what+", both", v, v)
	for level := range 4 {
		wantNoOverlaps(t, what, v, level, "\x00", repeated(0xff, 16))
	}
	wantNoPick(t, what, v)
}
