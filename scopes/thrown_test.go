package scopes_test

import (
	"math"
	"testing"

	"theodolite/api"
)

func TestThrownTables(t *testing.T) {
	next := dice(1)
	for range 3000 {
		l, p := thrown(next)
		if !isRight(l, p) {
			t.Fatalf("%v, %v is not right", l, p)
		}
		isTable(t, l, p, own(l, p))
		for range 5 {
			pc := next(300)
			isIn(t, l, pc, in(l, pc))
		}
		for i := range p {
			for _, v := range l[p[i].Func].Vars {
				isNamed(t, l, p, i, v.Name, named(l, p, i, v.Name))
			}
		}
	}
}

// What a table says one behind the other is read one by one.
func TestTablesBehindEachOther(t *testing.T) {
	next := dice(2)
	for range 300 {
		l, p := thrown(next)
		m, q := thrown(next)
		b, c := own(l, p), own(m, q)
		isGot(t, b+c, 0, l, p, len(b))
		isGot(t, b+c, len(b), m, q, len(b+c))
	}
}

// spoils is what makes one thing of a table another one; it may be right still.
func spoils(next func(int) int) []func(l []api.Place, p []api.Point) {
	ends := []int{-1, 0, 1, 40, 300, mostPlace, math.MaxInt, math.MinInt}
	names := []string{"", "a b", "é", "abcdefghijklmnopqrstuvwxy", "abcdefghijklmnopqrstuvwx", "_", "\x00"}
	a := func(n int) int { return next(max(n, 1)) }
	with := func(l []api.Place, do func(p *api.Place, k int)) {
		if p := &l[a(len(l))]; len(p.Vars) > 0 {
			do(p, a(len(p.Vars)))
		}
	}
	mark := func(p []api.Point, do func(p *api.Point)) {
		if len(p) > 0 {
			do(&p[a(len(p))])
		}
	}
	return []func(l []api.Place, p []api.Point){
		func(l []api.Place, p []api.Point) { l[a(len(l))].Name = names[a(len(names))] },
		func(l []api.Place, p []api.Point) { l[a(len(l))].From += a(9) - 4 },
		func(l []api.Place, p []api.Point) { l[a(len(l))].To += a(9) - 4 },
		func(l []api.Place, p []api.Point) { l[a(len(l))].From = ends[a(len(ends))] },
		func(l []api.Place, p []api.Point) { l[a(len(l))].To = ends[a(len(ends))] },
		func(l []api.Place, p []api.Point) {
			with(l, func(p *api.Place, k int) { p.Vars[k].Name = names[a(len(names))] })
		},
		func(l []api.Place, p []api.Point) { with(l, func(p *api.Place, k int) { p.Vars[k].Words += a(3) - 1 }) },
		func(l []api.Place, p []api.Point) {
			with(l, func(p *api.Place, k int) { p.Vars[k].Type.Kind = uint8(a(6)) })
		},
		func(l []api.Place, p []api.Point) {
			with(l, func(p *api.Place, k int) { p.Vars[k].Type.N += a(20) - 1 })
		},
		func(l []api.Place, p []api.Point) {
			with(l, func(p *api.Place, k int) { p.Vars[k].Type.Name = names[a(len(names))] })
		},
		func(l []api.Place, p []api.Point) {
			with(l, func(p *api.Place, k int) { p.Vars[k].Fields = append(p.Vars[k].Fields, names[a(len(names))]) })
		},
		func(l []api.Place, p []api.Point) { with(l, func(p *api.Place, k int) { p.Vars = p.Vars[:k] }) },
		func(l []api.Place, p []api.Point) { with(l, func(p *api.Place, k int) { p.Spans = p.Spans[:k] }) },
		func(l []api.Place, p []api.Point) {
			with(l, func(p *api.Place, k int) { p.Vars, p.Spans = p.Vars[:k], p.Spans[:k] })
		},
		func(l []api.Place, p []api.Point) {
			with(l, func(p *api.Place, k int) {
				p.Spans[k] = append(p.Spans[k], span(p.To-2+a(3), p.To-1+a(3), 1))
			})
		},
		func(l []api.Place, p []api.Point) {
			with(l, func(p *api.Place, k int) { p.Spans[k] = []api.Span{span(p.From-1+a(3), p.From+a(3), 1)} })
		},
		func(l []api.Place, p []api.Point) { mark(p, func(x *api.Point) { x.Func += a(3) - 1 }) },
		func(l []api.Place, p []api.Point) {
			mark(p, func(x *api.Point) { x.Line += []int{-300, -1, 1, 1 << 20}[a(4)] })
		},
		func(l []api.Place, p []api.Point) { mark(p, func(x *api.Point) { x.Scope = append(x.Scope, a(6)-1) }) },
		func(l []api.Place, p []api.Point) {
			mark(p, func(x *api.Point) { x.Scope = append([]int{a(4) - 1}, x.Scope...) })
		},
	}
}

func TestOneThingTurned(t *testing.T) {
	next := dice(3)
	all := spoils(next)
	right := 0
	for range 12000 {
		l, p := thrown(next)
		if len(l) == 0 {
			continue
		}
		all[next(len(all))](l, p)
		isRightAsTheWordsSay(t, l, p)
		if isRight(l, p) {
			right++
		}
	}
	if right < 1500 || right > 9000 {
		t.Errorf("%d of 12000 were right: not both sorts were tried", right)
	}
}

// One byte of a right table's is another one, too many, or missing.
func TestOneByteTurned(t *testing.T) {
	next := dice(4)
	few := []byte{0, 1, 2, 3, 4, 5, 16, 17, 'x', 0x7f, 0x80, 0x81, 0xff}
	for range 400 {
		l, p := thrown(next)
		b := []byte(own(l, p))
		for range 12 {
			i := next(len(b))
			x := few[next(len(few))]
			turned := append(append(append([]byte{}, b[:i]...), x), b[i+1:]...)
			more := append(append(append([]byte{}, b[:i]...), x), b[i:]...)
			less := append(append([]byte{}, b[:i]...), b[i+1:]...)
			for _, c := range [][]byte{turned, more, less} {
				if l, p, size, is := told(c); is {
					isGot(t, string(c), 0, l, p, size)
				} else {
					isNotGot(t, string(c), 0, api.ErrForm)
				}
			}
		}
	}
}

// W5: any bytes end, and what is got is right, and is put as it stood there.
func TestAnyBytes(t *testing.T) {
	next := dice(5)
	few := []byte{0, 0, 0, 0, 1, 1, 1, 1, 1, 2, 2, 3, 4, 'x', '_', 0x80, 0xff}
	right := 0
	for range 20000 {
		b := make([]byte, next(24))
		for i := range b {
			b[i] = few[next(len(few))]
		}
		right += isGotAsTheWordsSay(t, b)
	}
	if right < 5000 {
		t.Errorf("only %d were right", right)
	}
	for x := range 1 << 16 {
		isGotAsTheWordsSay(t, []byte{byte(x >> 8), byte(x), 'x', 0, 1, 0, 0})
	}
}
