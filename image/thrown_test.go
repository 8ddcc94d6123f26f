package image_test

import (
	"math"
	"testing"

	"theodolite/api"
	"theodolite/isa"
)

// thrown is a right image, which looks thrown.
func thrown(next func(int) int) api.Image {
	var m api.Image
	kinds := sorts()
	var at []int
	for range 1 + next(12) {
		at = append(at, len(m.Code))
		m.Code = append(m.Code, isa.Put(nil, kinds[next(len(kinds))])...)
	}
	m.Start = at[next(len(at))]
	at = append(at, len(m.Code))
	for i := next(3); i < len(at)-1 && next(4) > 0; {
		to := min(i+1+next(4), len(at)-1)
		m.Places = append(m.Places, function(next, at[i], at[to]))
		for range next(3) {
			m.Points = append(m.Points, api.Point{Func: len(m.Places) - 1, Line: 1 + next(300), Scope: scope(next, len(m.Places[len(m.Places)-1].Vars))})
		}
		for k := i; k < to; k++ {
			if n := len(m.Points); n > 0 && m.Points[n-1].Func == len(m.Places)-1 && next(2) > 0 {
				m.Rows = append(m.Rows, row(at[k], n-1))
			}
		}
		i = to + next(2)
	}
	for from := next(4); from < len(m.Code) && next(4) > 0; {
		u := api.Unwind{From: from, To: min(from+1+next(9), len(m.Code)), Up: int64(next(300))}
		for reg := 6 + next(9); reg < 12; reg += 1 + next(4) {
			u.Regs = append(u.Regs, api.Saved{Reg: reg, At: -2 - int64(next(200))})
		}
		m.Unwinds = append(m.Unwinds, u)
		from = u.To + next(2)
	}
	return m
}

// function is a place with variables.
func function(next func(int) int, from, to int) api.Place {
	names := []string{"x", "y", "main", "_1"}
	p := place(names[next(len(names))], from, to)
	for range next(3) {
		v := api.Var{Name: names[next(len(names))], Type: api.Type{Kind: api.TyInt}, Words: 1}
		if next(3) == 0 {
			v.Type, v.Words = api.Type{Kind: api.TyArray, N: 1 + next(16)}, 0
			v.Words = v.Type.N
		}
		var spans []api.Span
		if at := from + next(to-from); next(3) > 0 {
			spans = append(spans, api.Span{From: at, To: at + 1 + next(to-at), At: []api.Loc{{Kind: api.LocReg, N: int64(next(16))}}})
		}
		p.Vars, p.Spans = append(p.Vars, v), append(p.Spans, spans)
	}
	return p
}

// scope is some of so many variables.
func scope(next func(int) int, many int) (l []int) {
	for k := range many {
		if next(2) > 0 {
			l = append(l, k)
		}
	}
	return l
}

func TestThrownImages(t *testing.T) {
	next := dice(1)
	for range 3000 {
		m := thrown(next)
		if !isRight(m) {
			t.Fatalf("%v is not right", m)
		}
		isImage(t, m, own(m))
		isBegins(t, m.Code)
	}
}

// spoils is what makes one thing of an image another one; it may be right still.
func spoils(next func(int) int) []func(m *api.Image) {
	far := []int{-1, 0, 1, 19, 40, 1 << 20, 1 << 24, math.MaxInt, math.MinInt}
	a := func(n int) int { return next(max(n, 1)) }
	function := func(m *api.Image, do func(p *api.Place)) {
		if len(m.Places) > 0 {
			do(&m.Places[a(len(m.Places))])
		}
	}
	line := func(m *api.Image, do func(r *api.Row)) {
		if len(m.Rows) > 0 {
			do(&m.Rows[a(len(m.Rows))])
		}
	}
	entry := func(m *api.Image, do func(u *api.Unwind)) {
		if len(m.Unwinds) > 0 {
			do(&m.Unwinds[a(len(m.Unwinds))])
		}
	}
	return []func(m *api.Image){
		func(m *api.Image) { m.Start += a(9) - 4 },
		func(m *api.Image) { m.Start = far[a(len(far))] },
		func(m *api.Image) { m.Code = m.Code[:a(len(m.Code))] },
		func(m *api.Image) { m.Code = append(m.Code, byte(a(20))) },
		func(m *api.Image) { m.Code[a(len(m.Code))] = byte(a(20)) },
		func(m *api.Image) { function(m, func(p *api.Place) { p.From += a(7) - 3 }) },
		func(m *api.Image) { function(m, func(p *api.Place) { p.To += a(7) - 3 }) },
		func(m *api.Image) { function(m, func(p *api.Place) { p.From = far[a(len(far))] }) },
		func(m *api.Image) { function(m, func(p *api.Place) { p.To = far[a(len(far))] }) },
		func(m *api.Image) { m.Places = m.Places[:a(len(m.Places))] },
		func(m *api.Image) { m.Points = m.Points[:a(len(m.Points))] },
		func(m *api.Image) {
			if len(m.Points) > 0 {
				m.Points[a(len(m.Points))].Func += a(3) - 1
			}
		},
		func(m *api.Image) { line(m, func(r *api.Row) { r.Pc += a(7) - 3 }) },
		func(m *api.Image) { line(m, func(r *api.Row) { r.Point += a(3) - 1 }) },
		func(m *api.Image) { line(m, func(r *api.Row) { r.Pc = far[a(len(far))] }) },
		func(m *api.Image) { line(m, func(r *api.Row) { r.Point = far[a(len(far))] }) },
		func(m *api.Image) { m.Rows = append(m.Rows, row(a(len(m.Code)+2), a(len(m.Points)+1))) },
		func(m *api.Image) { entry(m, func(u *api.Unwind) { u.To += a(7) - 3 }) },
		func(m *api.Image) { entry(m, func(u *api.Unwind) { u.To = far[a(len(far))] }) },
		func(m *api.Image) { entry(m, func(u *api.Unwind) { u.Up = int64(a(9) - 4) }) },
		func(m *api.Image) {
			m.Unwinds = append(m.Unwinds, api.Unwind{From: len(m.Code) - a(3), To: len(m.Code) - 1 + a(3)})
		},
	}
}

func TestOneThingTurned(t *testing.T) {
	next := dice(2)
	all := spoils(next)
	right := 0
	for range 12000 {
		m := thrown(next)
		all[next(len(all))](&m)
		if isAsTheWordsSay(t, m) {
			right++
		}
	}
	if right < 1500 || right > 9000 {
		t.Errorf("%d of 12000 were right: not both sorts were tried", right)
	}
}

// One byte of a right image's is another one, too many, or missing.
func TestOneByteTurned(t *testing.T) {
	next := dice(3)
	few := []byte{0, 1, 2, 3, 4, 5, 8, 13, 16, 20, 'x', 0x7f, 0x80, 0x81, 0xff}
	right := 0
	for range 1500 {
		b := own(thrown(next))
		for range 12 {
			i := next(len(b))
			x := string([]byte{few[next(len(few))]})
			for _, c := range []string{b[:i] + x + b[i+1:], b[:i] + x + b[i:], b[:i] + b[i+1:]} {
				if isReadAsTheWordsSay(t, c) {
					right++
				}
			}
		}
	}
	if right < 3000 {
		t.Errorf("only %d were right", right)
	}
}

// W5: any bytes end, and what is read is right, and is written and read again the same.
func TestAnyBytes(t *testing.T) {
	next := dice(4)
	few := []byte{0, 0, 0, 1, 1, 2, 3, 8, 13, 13, 'x', 0x80, 0xff}
	any := func(n int) string {
		b := make([]byte, next(n))
		for i := range b {
			b[i] = few[next(len(few))]
		}
		return string(b)
	}
	right := 0
	for range 20000 {
		isReadAsTheWordsSay(t, any(24))
		isReadAsTheWordsSay(t, head+any(24))
		if isReadAsTheWordsSay(t, with(uint64(next(3)), "\x0d"+any(3), any(2)+"\x00", "\x00", "\x00\x00")) {
			right++
		}
		isReadAsTheWordsSay(t, with(uint64(next(3)), any(4), any(4), any(6), any(9)))
		isReadAsTheWordsSay(t, with(0, "\x0d\x0d", any(4)+"\x00", any(6), "\x01\x01f\x00\x02\x00"+any(6)))
	}
	if right < 1000 {
		t.Errorf("only %d were right", right)
	}
}

func TestAllLineSectionsOfTwoBytes(t *testing.T) {
	for x := range 1 << 16 {
		isReadAsTheWordsSay(t, with(0, "\x0d\x01\x0d", string([]byte{byte(x >> 8), byte(x)}), "\x00", "\x01\x01f\x00\x03\x00\x02\x00\x03\x00\x00\x04\x00"))
		isReadAsTheWordsSay(t, with(0, "\x0d\x01\x0d", string([]byte{byte(x >> 8), byte(x), 0}), "\x00", "\x02\x01f\x00\x02\x00\x01f\x00\x01\x00\x02\x01\x03\x00\x00\x04\x00"))
	}
}
