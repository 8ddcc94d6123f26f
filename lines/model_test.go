package lines_test

import (
	"bytes"
	"math/big"
	"slices"
	"testing"

	"theodolite/api"
	"theodolite/leb"
	"theodolite/lines"
)

const (
	mostRows  = 20000
	bound     = 1 << 24
	lastPc    = bound - 1
	lastPoint = api.MaxPoints - 1
)

// The chapter's words once more: numbers have no bounds here.

// isRight tells whether rows are a right line table, each rule on its own.
func isRight(l []api.Row) bool {
	rises := true
	for i := 1; i < len(l); i++ {
		rises = rises && l[i-1].Pc < l[i].Pc
	}
	wrong := slices.ContainsFunc(l, func(r api.Row) bool {
		return r.Pc < 0 || r.Pc > lastPc || r.Point < 0 || r.Point > lastPoint
	})
	return len(l) <= mostRows && rises && !wrong
}

// own is the own program of a right table.
func own(l []api.Row) []byte {
	var b []byte
	pc, point := 0, 0
	for _, r := range l {
		d, e := r.Pc-pc, r.Point-point
		switch {
		case d <= 20 && -4 <= e && e <= 7:
			b = append(b, byte(4+12*d+e+4))
		default:
			if d != 0 {
				b = append(append(b, 1), leb.PutU(nil, uint64(d))...)
			}
			if e != 0 {
				b = append(append(b, 2), leb.PutS(nil, int64(e))...)
			}
			b = append(b, 3)
		}
		pc, point = r.Pc, r.Point
	}
	return append(b, 0)
}

// place is a pc and a point without bounds.
type place struct{ pc, point *big.Int }

// may tells whether both are where a program may bring them.
func (p place) may() bool {
	for _, x := range []*big.Int{p.pc, p.point} {
		if x.Sign() < 0 || x.Cmp(big.NewInt(bound)) > 0 {
			return false
		}
	}
	return true
}

// said is what a line program says; false, if it is none.
func said(b []byte) (l []api.Row, is bool) {
	p := place{new(big.Int), new(big.Int)}
	for len(b) > 0 {
		step := b[0]
		b = b[1:]
		if step == 0 {
			return l, len(b) == 0
		}
		row := false
		switch step {
		case 1:
			x, next, e := leb.U(b, 0)
			if e != api.OK {
				return nil, false
			}
			p.pc.Add(p.pc, new(big.Int).SetUint64(x))
			b = b[next:]
		case 2:
			x, next, e := leb.S(b, 0)
			if e != api.OK {
				return nil, false
			}
			p.point.Add(p.point, big.NewInt(x))
			b = b[next:]
		case 3:
			row = true
		default:
			k, j := (int64(step)-4)/12, (int64(step)-4)%12
			p.pc.Add(p.pc, big.NewInt(k))
			p.point.Add(p.point, big.NewInt(j-4))
			row = true
		}
		if !p.may() {
			return nil, false
		}
		if row {
			l = append(l, api.Row{Pc: int(p.pc.Int64()), Point: int(p.point.Int64())})
		}
	}
	return nil, false
}

// What is asked of the calls.

func isRead(t *testing.T, b string, want ...api.Row) {
	t.Helper()
	if l, e := lines.Read([]byte(b)); !slices.Equal(l, want) || e != api.OK {
		t.Errorf("Read(%x): %v, error %d, not %v", short(b), few(l), e, few(want))
	}
}

func isNoProgram(t *testing.T, b string) {
	t.Helper()
	if l, e := lines.Read([]byte(b)); len(l) != 0 || e != api.ErrForm {
		t.Errorf("Read(%x): %v, error %d, not error %d", short(b), few(l), e, api.ErrForm)
	}
}

func isReadAsTheWordsSay(t *testing.T, b string) {
	t.Helper()
	if l, is := said([]byte(b)); is && isRight(l) {
		isRead(t, b, l...)
	} else {
		isNoProgram(t, b)
	}
}

// isWritten: the rows are right, have just this program, and come out of it.
func isWritten(t *testing.T, l []api.Row, want string) {
	t.Helper()
	if !lines.Right(l) {
		t.Errorf("%v is not right", few(l))
	}
	if b, e := lines.Write(l); string(b) != want || e != api.OK {
		t.Errorf("Write(%v): %x, error %d, not %x", few(l), short(string(b)), e, short(want))
	}
	isRead(t, want, l...)
}

func isWrong(t *testing.T, l []api.Row) {
	t.Helper()
	if lines.Right(l) {
		t.Errorf("%v is right", few(l))
	}
	if b, e := lines.Write(l); len(b) != 0 || e != api.ErrArg {
		t.Errorf("Write(%v): %x, error %d, not error %d", few(l), short(string(b)), e, api.ErrArg)
	}
}

// followsAllThat asks what follows of a right table.
func followsAllThat(t *testing.T, l []api.Row) {
	t.Helper()
	b, e := lines.Write(l)
	if e != api.OK || !lines.Right(l) || len(b) > 9*len(l)+1 {
		t.Errorf("%v: right: %v, error %d, %d bytes", few(l), lines.Right(l), e, len(b))
	}
	if !bytes.Equal(b, own(l)) {
		t.Errorf("Write(%v): %x", few(l), short(string(b)))
	}
	isRead(t, string(b), l...)
}

func few(l []api.Row) []api.Row { return l[:min(len(l), 8)] }

func short(s string) string { return s[:min(len(s), 40)] }

func u(x uint64) string { return "\x01" + string(leb.PutU(nil, x)) }

func s(x int64) string { return "\x02" + string(leb.PutS(nil, x)) }

// dice answers numbers below n that look thrown, the same ones each time.
func dice(seed uint64) func(n int) int {
	return func(n int) int {
		seed = seed*6364136223846793005 + 1442695040888963407
		return int(seed >> 33 % uint64(n))
	}
}

// thrown are right rows, with the distances that a program tells in different ways.
func thrown(next func(n int) int, size int) []api.Row {
	l := make([]api.Row, 0, size)
	pc, point := -1, 0
	for range size {
		pc += 1 + []int{0, next(3), next(22), next(200), next(40000), next(1 << 22)}[next(6)]
		if pc > lastPc {
			break
		}
		point = min(max(point+[]int{0, next(5) - 2, next(16) - 6, next(200) - 100, next(2000) - 1000}[next(5)], 0), lastPoint)
		l = append(l, api.Row{Pc: pc, Point: point})
	}
	return l
}

// table is rows, of each its Pc and its Point.
func table(numbers ...int) []api.Row {
	var l []api.Row
	for pair := range slices.Chunk(numbers, 2) {
		l = append(l, api.Row{Pc: pair[0], Point: pair[1]})
	}
	return l
}

// evenly are so many right rows.
func evenly(size int) []api.Row {
	l := make([]api.Row, size)
	for i := range l {
		l[i] = api.Row{Pc: i, Point: 0}
	}
	return l
}
