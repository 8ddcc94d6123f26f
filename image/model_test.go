package image_test

import (
	"slices"
	"testing"

	"theodolite/api"
	"theodolite/image"
	"theodolite/isa"
	"theodolite/leb"
	"theodolite/lines"
	"theodolite/scopes"
	"theodolite/unwind"
)

// The chapter's words once more, each rule on its own.

const head = "\x54\x48\x45\x4f\x01"

// starts tells of each place of the code, and of its end, whether an instruction begins there; false, if it is not instructions up to its end.
func starts(code []byte) (at map[int]bool, is bool) {
	at = map[int]bool{}
	for next := 0; next != len(code); {
		at[next] = true
		i, behind, e := isa.Get(code, next)
		if e != api.OK || behind != next+isa.Size(i) {
			return nil, false
		}
		next = behind
	}
	return at, true
}

// isRight tells whether an image is right.
func isRight(m api.Image) bool {
	at, is := starts(m.Code)
	wrong := !is || len(m.Code) < 1 || len(m.Code) > 1<<20 || !at[m.Start]
	wrong = wrong || !scopes.Right(m.Places, m.Points) || !lines.Right(m.Rows) || !unwind.Right(m.Unwinds)
	if wrong {
		return false
	}
	for _, p := range m.Places {
		wrong = wrong || !at[p.From] || p.To != len(m.Code) && !at[p.To]
	}
	for _, r := range m.Rows {
		wrong = wrong || !at[r.Pc] || r.Point > len(m.Points)-1
		if wrong {
			return false
		}
		p := m.Places[m.Points[r.Point].Func]
		wrong = r.Pc < p.From || r.Pc >= p.To
	}
	for _, u := range m.Unwinds {
		wrong = wrong || u.To > len(m.Code)
	}
	return !wrong
}

// sized is a section with its size ahead.
func sized(s string) string { return string(leb.PutU(nil, uint64(len(s)))) + s }

// with is the bytes of a start and sections, whatever these are.
func with(start uint64, sections ...string) string {
	b := head + string(leb.PutU(nil, start))
	for _, s := range sections {
		b += sized(s)
	}
	return b
}

// said is the sections of an image whose parts are right, each alone.
func said(m api.Image) []string {
	rows, _ := lines.Write(m.Rows)
	unwinds, _ := unwind.Put(nil, m.Unwinds)
	table, _ := scopes.Put(nil, m.Places, m.Points)
	return []string{string(m.Code), string(rows), string(unwinds), string(table)}
}

// own is the bytes of an image.
func own(m api.Image) string { return with(uint64(m.Start), said(m)...) }

// canBeSaid tells whether an image has bytes, right or not.
func canBeSaid(m api.Image) bool {
	return lines.Right(m.Rows) && unwind.Right(m.Unwinds) && scopes.Right(m.Places, m.Points)
}

// told is the right image that bytes say; false, if there is none. It cuts them first, and reads then.
func told(b string) (m api.Image, is bool) {
	if len(b) < len(head) || b[:len(head)] != head {
		return api.Image{}, false
	}
	left := []byte(b)[len(head):]
	start, next, e := leb.U(left, 0)
	if e != api.OK || start > 1<<20 {
		return api.Image{}, false
	}
	left = left[next:]
	var parts [][]byte
	for range 4 {
		size, next, e := leb.U(left, 0)
		if e != api.OK || size > 1<<40 || len(left) < next+int(size) {
			return api.Image{}, false
		}
		parts = append(parts, left[next:next+int(size)])
		left = left[next+int(size):]
	}
	rows, e := lines.Read(parts[1])
	unwinds, unwindsEnd, f := unwind.Get(parts[2], 0)
	places, points, tableEnd, g := scopes.Get(parts[3], 0)
	m = api.Image{Code: parts[0], Start: int(start), Rows: rows, Unwinds: unwinds, Places: places, Points: points}
	if len(left) != 0 || e != api.OK || f != api.OK || g != api.OK || unwindsEnd != len(parts[2]) || tableEnd != len(parts[3]) || !isRight(m) {
		return api.Image{}, false
	}
	return m, true
}

// Both against each other

func sameVar(a, b api.Var) bool {
	return a.Name == b.Name && a.Type == b.Type && a.Words == b.Words && slices.Equal(a.Fields, b.Fields)
}

func sameSpans(a, b []api.Span) bool {
	return slices.EqualFunc(a, b, func(x, y api.Span) bool { return x.From == y.From && x.To == y.To && slices.Equal(x.At, y.At) })
}

func samePlace(a, b api.Place) bool {
	return a.Name == b.Name && a.From == b.From && a.To == b.To && slices.EqualFunc(a.Vars, b.Vars, sameVar) && slices.EqualFunc(a.Spans, b.Spans, sameSpans)
}

func samePoint(a, b api.Point) bool {
	return a.Func == b.Func && a.Line == b.Line && slices.Equal(a.Scope, b.Scope)
}

func sameUnwind(a, b api.Unwind) bool {
	return a.From == b.From && a.To == b.To && a.Up == b.Up && slices.Equal(a.Regs, b.Regs)
}

func same(a, b api.Image) bool {
	return slices.Equal(a.Code, b.Code) && a.Start == b.Start && slices.Equal(a.Rows, b.Rows) && slices.EqualFunc(a.Unwinds, b.Unwinds, sameUnwind) && slices.EqualFunc(a.Places, b.Places, samePlace) && slices.EqualFunc(a.Points, b.Points, samePoint)
}

// copied is a list with nothing behind its end, each thing in it made new.
func copied[T any](l []T, one func(x T) T) []T {
	out := make([]T, len(l))
	for i, x := range l {
		out[i] = one(x)
	}
	return out
}

// clone is an image with lists of its own, with nothing behind their ends.
func clone(m api.Image) api.Image {
	m.Code, m.Rows = slices.Clip(slices.Clone(m.Code)), slices.Clip(slices.Clone(m.Rows))
	m.Unwinds = copied(m.Unwinds, func(u api.Unwind) api.Unwind {
		u.Regs = slices.Clip(slices.Clone(u.Regs))
		return u
	})
	m.Points = copied(m.Points, func(p api.Point) api.Point {
		p.Scope = slices.Clip(slices.Clone(p.Scope))
		return p
	})
	m.Places = copied(m.Places, func(p api.Place) api.Place {
		p.Vars = copied(p.Vars, func(v api.Var) api.Var {
			v.Fields = slices.Clip(slices.Clone(v.Fields))
			return v
		})
		p.Spans = copied(p.Spans, func(l []api.Span) []api.Span {
			return copied(l, func(s api.Span) api.Span {
				s.At = slices.Clip(slices.Clone(s.At))
				return s
			})
		})
		return p
	})
	return m
}

// some is the beginning of what may be long.
func some(b []byte) []byte { return b[:min(len(b), 60)] }

// brief is an image of which no list is long.
func brief(m api.Image) api.Image {
	m.Code, m.Rows, m.Unwinds = some(m.Code), m.Rows[:min(len(m.Rows), 20)], m.Unwinds[:min(len(m.Unwinds), 20)]
	m.Places, m.Points = m.Places[:min(len(m.Places), 8)], m.Points[:min(len(m.Points), 20)]
	return m
}

// isImage asks all that holds of a right image.
func isImage(t *testing.T, m api.Image, want string) {
	t.Helper()
	if !image.Right(m) {
		t.Fatalf("Right of %v: false", brief(m))
	}
	b, e := image.Write(m)
	if string(b) != want || e != api.OK {
		t.Fatalf("Write of %v: %x, error %d; not %x", brief(m), some(b), e, some([]byte(want)))
	}
	isRead(t, want, m)
}

// isWrong asks all that holds of what is no right image.
func isWrong(t *testing.T, m api.Image) {
	t.Helper()
	if image.Right(m) {
		t.Errorf("Right of %v: true", brief(m))
	}
	if b, e := image.Write(m); len(b) != 0 || e != api.ErrArg {
		t.Errorf("Write of %v: %x, error %d", brief(m), some(b), e)
	}
	if canBeSaid(m) {
		isNotRead(t, own(m))
	}
}

// isAsTheWordsSay asks whichever of both holds.
func isAsTheWordsSay(t *testing.T, m api.Image) (right bool) {
	t.Helper()
	if isRight(m) {
		isImage(t, m, own(m))
		return true
	}
	isWrong(t, m)
	return false
}

func isRead(t *testing.T, b string, m api.Image) {
	t.Helper()
	got, e := image.Read([]byte(b))
	if e != api.OK || !same(got, m) {
		t.Errorf("Read of %x: %v, error %d; not %v", some([]byte(b)), brief(got), e, brief(m))
	}
}

func isNotRead(t *testing.T, b string) {
	t.Helper()
	if got, e := image.Read([]byte(b)); !same(got, api.Image{}) || e != api.ErrForm {
		t.Errorf("Read of %x: %v, error %d", some([]byte(b)), brief(got), e)
	}
}

// isReadAsTheWordsSay asks of any bytes. What is read is right, is written, and is read the same again.
func isReadAsTheWordsSay(t *testing.T, b string) (right bool) {
	t.Helper()
	m, is := told(b)
	if !is {
		isNotRead(t, b)
		return false
	}
	isRead(t, b, m)
	isImage(t, m, own(m))
	return true
}

// isBegins asks of any code.
func isBegins(t *testing.T, code []byte) {
	t.Helper()
	at, is := starts(code)
	l, got := image.Begins(code)
	if got != is || len(l) != len(at) || !slices.IsSorted(l) {
		t.Fatalf("Begins of %x: %v, %v", some(code), l[:min(len(l), 40)], got)
	}
	for i, x := range l {
		if !at[x] || i > 0 && l[i-1] >= x {
			t.Fatalf("Begins of %x: %d at %d", some(code), x, i)
		}
	}
}

// dice is numbers that look thrown, below what is asked for.
func dice(seed uint64) func(n int) int {
	return func(n int) int {
		seed = seed*6364136223846793005 + 1442695040888963407
		return int(seed>>33) % n
	}
}
