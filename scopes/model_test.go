package scopes_test

import (
	"math/big"
	"slices"
	"strings"
	"testing"

	"theodolite/api"
	"theodolite/leb"
	"theodolite/locs"
	"theodolite/octet"
	"theodolite/scopes"
)

const mostPlace = 1 << 24

// The chapter's words once more, each rule on its own.

// signs is what a name may have.
const signs = "abcdefghijklmnopqrstuvwxyzABCDEFGHIJKLMNOPQRSTUVWXYZ0123456789_"

func isName(s string) bool {
	wrong := len(s) == 0 || len(s) > 24
	for _, c := range []byte(s) {
		wrong = wrong || !strings.Contains(signs, string([]byte{c}))
	}
	return !wrong
}

func isVar(v api.Var) bool {
	k := v.Type
	wrong := !isName(v.Name)
	wrong = wrong || k.Kind < 1 || k.Kind > 4
	wrong = wrong || k.Kind != 3 && k.N != 0
	wrong = wrong || k.Kind == 3 && (k.N < 1 || k.N > 16)
	wrong = wrong || k.Kind != 4 && (k.Name != "" || len(v.Fields) > 0)
	wrong = wrong || k.Kind == 4 && (!isName(k.Name) || len(v.Fields) < 1 || len(v.Fields) > 8)
	for _, s := range v.Fields {
		wrong = wrong || !isName(s)
	}
	return !wrong && v.Words == map[uint8]int{1: 1, 2: 1, 3: k.N, 4: len(v.Fields)}[k.Kind]
}

func isPlace(p api.Place) bool {
	wrong := !isName(p.Name) || p.From < 0 || p.To <= p.From || p.To > mostPlace || len(p.Vars) > 64 || len(p.Vars) != len(p.Spans)
	for _, v := range p.Vars {
		wrong = wrong || !isVar(v)
	}
	for _, l := range p.Spans {
		wrong = wrong || !locs.Right(l)
		for _, s := range l {
			wrong = wrong || s.From < p.From || s.From > p.To || s.To < p.From || s.To > p.To
		}
	}
	return !wrong
}

func isPoint(l []api.Place, p api.Point) bool {
	if p.Func < 0 || p.Func >= len(l) {
		return false
	}
	wrong := p.Line < 1 || p.Line > 1<<20
	for i, k := range p.Scope {
		wrong = wrong || k < 0 || k >= len(l[p.Func].Vars)
		wrong = wrong || i > 0 && p.Scope[i-1] >= k
	}
	return !wrong
}

// isRight tells whether places and points are a right table.
func isRight(l []api.Place, points []api.Point) bool {
	wrong := len(l) > 64 || len(points) > 1000
	for i, p := range l {
		wrong = wrong || !isPlace(p) || i > 0 && p.From < l[i-1].To
	}
	for _, p := range points {
		wrong = wrong || !isPoint(l, p)
	}
	return !wrong
}

// own is the bytes of a table, which is right but for such faults as can be said.
func own(l []api.Place, points []api.Point) string {
	var b []byte
	number := func(n int) { b = append(b, leb.PutU(nil, uint64(n))...) }
	text := func(s string) { b = append(append(b, byte(len(s))), s...) }
	number(len(l))
	end := 0
	for _, p := range l {
		text(p.Name)
		number(p.From - end)
		number(p.To - p.From)
		number(len(p.Vars))
		end = p.To
		for i, v := range p.Vars {
			text(v.Name)
			b = append(b, v.Type.Kind)
			if v.Type.Kind == 3 {
				number(v.Type.N)
			}
			if v.Type.Kind == 4 {
				text(v.Type.Name)
				number(len(v.Fields))
				for _, s := range v.Fields {
					text(s)
				}
			}
			spans, _ := locs.Put(nil, p.Spans[i])
			b = append(b, spans...)
		}
	}
	number(len(points))
	for _, p := range points {
		number(p.Func)
		number(p.Line)
		number(len(p.Scope))
		for _, k := range p.Scope {
			number(k)
		}
	}
	return string(b)
}

// walker goes through bytes till something is not there.
type walker struct {
	b    []byte
	at   int
	gone bool
}

// upTo is the next number, which is not there if it is above most.
func (w *walker) upTo(most int64) int {
	n, next, e := leb.U(w.b, w.at)
	if w.gone || e != api.OK || new(big.Int).SetUint64(n).Cmp(big.NewInt(most)) > 0 {
		w.gone = true
		return 0
	}
	w.at = next
	return int(n)
}

func (w *walker) text() string {
	s, next, e := octet.Text(w.b, w.at)
	if w.gone || e != api.OK {
		w.gone = true
		return ""
	}
	w.at = next
	return s
}

func (w *walker) one() uint8 {
	if w.gone || w.at >= len(w.b) {
		w.gone = true
		return 0
	}
	w.at++
	return w.b[w.at-1]
}

func (w *walker) spans() []api.Span {
	l, next, e := locs.Get(w.b, w.at)
	if w.gone || e != api.OK {
		w.gone = true
		return nil
	}
	w.at = next
	return l
}

// told is the right table whose bytes stand at the beginning of b, and how many they are; false, if there is none.
func told(b []byte) (l []api.Place, points []api.Point, size int, is bool) {
	w := &walker{b: b}
	end := 0
	for range w.upTo(64) {
		p := api.Place{Name: w.text(), From: end + w.upTo(mostPlace)}
		p.To = p.From + w.upTo(mostPlace)
		end = p.To
		for range w.upTo(64) {
			v := api.Var{Name: w.text(), Type: api.Type{Kind: w.one()}, Words: 1}
			if v.Type.Kind == 3 {
				v.Type.N = w.upTo(16)
				v.Words = v.Type.N
			}
			if v.Type.Kind == 4 {
				v.Type.Name = w.text()
				v.Words = w.upTo(8)
				for range v.Words {
					v.Fields = append(v.Fields, w.text())
				}
			}
			p.Vars = append(p.Vars, v)
			p.Spans = append(p.Spans, w.spans())
		}
		l = append(l, p)
	}
	for range w.upTo(1000) {
		p := api.Point{Func: w.upTo(63), Line: w.upTo(1 << 20)}
		for range w.upTo(64) {
			p.Scope = append(p.Scope, w.upTo(63))
		}
		points = append(points, p)
	}
	if w.gone || !isRight(l, points) {
		return nil, nil, 0, false
	}
	return l, points, w.at, true
}

// in is the number of the first place that has a pc, or -1.
func in(l []api.Place, pc int) int {
	for i := range l {
		if pc >= l[i].From && pc < l[i].To {
			return i
		}
	}
	return -1
}

// named is the number of the variable, or -1.
func named(l []api.Place, points []api.Point, point int, name string) int {
	last := -1
	for i, p := range points {
		for f, place := range l {
			for _, k := range p.Scope {
				for n, v := range place.Vars {
					if i == point && f == p.Func && n == k && v.Name == name {
						last = k
					}
				}
			}
		}
	}
	return last
}

// Both against each other

func sameVar(a, b api.Var) bool {
	return a.Name == b.Name && a.Type == b.Type && a.Words == b.Words && slices.Equal(a.Fields, b.Fields)
}

func sameSpans(a, b []api.Span) bool {
	return slices.EqualFunc(a, b, func(x, y api.Span) bool { return x.From == y.From && x.To == y.To && slices.Equal(x.At, y.At) })
}

func samePlace(a, b api.Place) bool {
	return a.Name == b.Name && a.From == b.From && a.To == b.To && slices.EqualFunc(a.Vars, b.Vars, sameVar) && slices.EqualFunc(a.Spans, b.Spans, sameSpans)
}

func samePoint(a, b api.Point) bool {
	return a.Func == b.Func && a.Line == b.Line && slices.Equal(a.Scope, b.Scope)
}

func same(a, b []api.Place) bool { return slices.EqualFunc(a, b, samePlace) }

func samePoints(a, b []api.Point) bool { return slices.EqualFunc(a, b, samePoint) }

// cloneVars, clone and clonePoints are copies with nothing behind their ends.
func cloneVars(l []api.Var) []api.Var {
	out := make([]api.Var, len(l))
	for i, v := range l {
		v.Fields = slices.Clone(v.Fields)
		out[i] = v
	}
	return out
}

func cloneSpans(l []api.Span) []api.Span {
	out := make([]api.Span, len(l))
	for i, s := range l {
		s.At = slices.Clone(s.At)
		out[i] = s
	}
	return out
}

func clone(l []api.Place) []api.Place {
	out := make([]api.Place, len(l))
	for i, p := range l {
		p.Vars = cloneVars(p.Vars)
		spans := make([][]api.Span, len(p.Spans))
		for k := range p.Spans {
			spans[k] = cloneSpans(p.Spans[k])
		}
		p.Spans = spans
		out[i] = p
	}
	return out
}

func clonePoints(l []api.Point) []api.Point {
	out := make([]api.Point, len(l))
	for i, p := range l {
		p.Scope = slices.Clone(p.Scope)
		out[i] = p
	}
	return out
}

// some is the beginning of what may be long.
func some[T any](l []T) []T { return l[:min(len(l), 40)] }

// isTable asks all that holds of a right table.
func isTable(t *testing.T, l []api.Place, points []api.Point, want string) {
	t.Helper()
	if !scopes.Right(l, points) {
		t.Fatalf("Right of %v, %v: false", some(l), some(points))
	}
	for _, ahead := range []string{"", "\x00", "\xff\x80\x01"} {
		b, e := scopes.Put([]byte(ahead), l, points)
		if string(b) != ahead+want || e != api.OK {
			t.Fatalf("Put behind %x of %v, %v: %x, error %d; not %x", ahead, some(l), some(points), some(b), e, some([]byte(want)))
		}
	}
	if b, e := scopes.Put(nil, l, points); string(b) != want || e != api.OK {
		t.Fatalf("Put behind nil of %v, %v: %x, error %d", some(l), some(points), some(b), e)
	}
	isGot(t, want, 0, l, points, len(want))
	isGot(t, "\x01"+want+"\x00", 1, l, points, len(want)+1)
}

// isWrong asks all that holds of what is no right table.
func isWrong(t *testing.T, l []api.Place, points []api.Point) {
	t.Helper()
	if scopes.Right(l, points) {
		t.Errorf("Right of %v, %v: true", some(l), some(points))
	}
	for _, ahead := range [][]byte{nil, {}, {1, 2, 3}} {
		if b, e := scopes.Put(ahead, l, points); len(b) != 0 || e != api.ErrArg {
			t.Errorf("Put behind %x of %v, %v: %x, error %d", ahead, some(l), some(points), some(b), e)
		}
	}
}

// isRightAsTheWordsSay asks whichever of both holds.
func isRightAsTheWordsSay(t *testing.T, l []api.Place, points []api.Point) {
	t.Helper()
	if isRight(l, points) {
		isTable(t, l, points, own(l, points))
	} else {
		isWrong(t, l, points)
	}
}

func isGot(t *testing.T, b string, at int, l []api.Place, points []api.Point, next int) {
	t.Helper()
	gotPlaces, gotPoints, behind, e := scopes.Get([]byte(b), at)
	if e != api.OK || behind != next || !same(gotPlaces, l) || !samePoints(gotPoints, points) {
		t.Errorf("Get of %x at %d: %v, %v, %d, error %d; not %v, %v, %d", some([]byte(b)), at, some(gotPlaces), some(gotPoints), behind, e, some(l), some(points), next)
	}
}

func isNotGot(t *testing.T, b string, at int, want api.Errno) {
	t.Helper()
	l, points, next, e := scopes.Get([]byte(b), at)
	if len(l) != 0 || len(points) != 0 || next != 0 || e != want {
		t.Errorf("Get of %x at %d: %v, %v, %d, error %d, not %d", some([]byte(b)), at, some(l), some(points), next, e, want)
	}
}

// isGotAsTheWordsSay asks of any bytes, from each place on.
func isGotAsTheWordsSay(t *testing.T, b []byte) (right int) {
	t.Helper()
	for at := range len(b) + 1 {
		if l, points, size, is := told(b[at:]); is {
			right++
			isGot(t, string(b), at, l, points, at+size)
			if own(l, points) != string(b[at:at+size]) {
				t.Errorf("%x is said by %x", b[at:at+size], own(l, points))
			}
		} else {
			isNotGot(t, string(b), at, api.ErrForm)
		}
	}
	return right
}

func isIn(t *testing.T, l []api.Place, pc, want int) {
	t.Helper()
	k, is := scopes.In(l, pc)
	if is != (want >= 0) || k != max(want, 0) {
		t.Errorf("In of %v, %d: %d, %v, not %d", some(l), pc, k, is, want)
	}
}

func isNamed(t *testing.T, l []api.Place, points []api.Point, point int, name string, want int) {
	t.Helper()
	k, is := scopes.Named(l, points, point, name)
	if is != (want >= 0) || k != max(want, 0) {
		t.Errorf("Named of %v, %v, %d, %q: %d, %v, not %d", some(l), some(points), point, name, k, is, want)
	}
}

// dice is numbers that look thrown, below what is asked for.
func dice(seed uint64) func(n int) int {
	return func(n int) int {
		seed = seed*6364136223846793005 + 1442695040888963407
		return int(seed>>33) % n
	}
}

// Tables that look thrown

func thrownName(next func(int) int) string {
	b := make([]byte, 1+next(5))
	if next(20) == 0 {
		b = make([]byte, 24)
	}
	for i := range b {
		b[i] = signs[next(len(signs))]
	}
	return string(b)
}

func thrownVar(next func(int) int) api.Var {
	name := thrownName(next)
	switch next(4) {
	case 0:
		return whole(name)
	case 1:
		return yes(name)
	case 2:
		return array(name, 1+next(16))
	}
	fields := make([]string, 1+next(8))
	for i := range fields {
		fields[i] = thrownName(next)
	}
	return record(name, thrownName(next), fields...)
}

func thrownSpans(next func(int) int, from, to int) []api.Span {
	var l []api.Span
	for at := from + next(4); next(4) > 0; at += next(3) {
		end := at + 1 + next(6)
		if end > to {
			break
		}
		l = append(l, span(at, end, int64(next(300)-150)))
		at = end
	}
	return l
}

// thrown is a right table.
func thrown(next func(int) int) (l []api.Place, points []api.Point) {
	end := 0
	for range next(6) {
		p := api.Place{Name: thrownName(next), From: end + next(3)*next(200)}
		p.To = p.From + 1 + next(40)
		end = p.To
		for range next(5) {
			p.Vars = append(p.Vars, thrownVar(next))
			p.Spans = append(p.Spans, thrownSpans(next, p.From, p.To))
		}
		l = append(l, p)
	}
	for range min(len(l), 1) * next(6) {
		p := api.Point{Func: next(len(l)), Line: 1 + next(300)}
		for k := range l[p.Func].Vars {
			if next(2) == 0 {
				p.Scope = append(p.Scope, k)
			}
		}
		points = append(points, p)
	}
	return l, points
}
