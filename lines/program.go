package lines

import (
	"theodolite/api"
	"theodolite/leb"
)

// What a step's byte says. From stepShort on, all of a row is in the one byte: how much more pc is, how much more point is, and that there is a row.
const (
	stepEnd byte = iota
	stepPc
	stepPoint
	stepRow
	stepShort
)

const (
	shortPc     = 20      // how much more pc is by one byte, at most
	shortPoints = 12      // how many ways there are for a point in one byte
	shortBack   = 4       // how much less point is by the first one of these
	most        = 1 << 24 // what pc and point may come to in a program
)

// Write: a line table's own program.
func Write(l []api.Row) ([]byte, api.Errno) {
	if !Right(l) {
		return nil, api.ErrArg
	}
	var b []byte
	var now api.Row // pc and point
	for _, r := range l {
		b = append(b, steps(r.Pc-now.Pc, r.Point-now.Point)...)
		now = r
	}
	return append(b, stepEnd), api.OK
}

// steps are those that come to a row, from a pc and a point that are so much less.
func steps(pc, point int) []byte {
	if pc <= shortPc && point >= -shortBack && point < shortPoints-shortBack {
		return []byte{stepShort + byte(shortPoints*pc+point+shortBack)}
	}
	var b []byte
	if pc != 0 {
		b = leb.PutU(append(b, stepPc), uint64(pc))
	}
	if point != 0 {
		b = leb.PutS(append(b, stepPoint), int64(point))
	}
	return append(b, stepRow)
}

// Read: the rows of a line program.
func Read(b []byte) ([]api.Row, api.Errno) {
	l, is := rows(b)
	if !is || !Right(l) {
		return nil, api.ErrForm
	}
	return l, api.OK
}

// rows are those of a program, whether they are right or not; false, if it says nothing. One row too many is enough to be wrong: what is behind that is not gone through.
func rows(b []byte) (l []api.Row, is bool) {
	var now api.Row // pc and point
	at := 0
	for at < len(b) && b[at] != stepEnd {
		step := b[at]
		now, at, is = moved(now, b, at)
		if !is || len(l) > mostRows {
			return nil, false
		}
		if step >= stepRow {
			l = append(l, now)
		}
	}
	return l, at == len(b)-1
}

// moved is where the step that stands at a place brings pc and point, and the place behind it; false, if it says nothing. What pc is to be more is held against the bound ahead of the sum, which could go round to a lesser pc; a point's sum that goes round is below 0 anyway.
func moved(now api.Row, b []byte, at int) (then api.Row, next int, is bool) {
	step, next := b[at], at+1
	switch {
	case step == stepPc:
		n, behind, e := leb.U(b, next)
		if e != api.OK || n > most {
			return api.Row{}, 0, false
		}
		now.Pc, next = now.Pc+int(n), behind
	case step == stepPoint:
		n, behind, e := leb.S(b, next)
		if e != api.OK {
			return api.Row{}, 0, false
		}
		now.Point, next = now.Point+int(n), behind
	case step >= stepShort:
		now.Pc += int(step-stepShort) / shortPoints
		now.Point += int(step-stepShort)%shortPoints - shortBack
	}
	if !may(now.Pc) || !may(now.Point) {
		return api.Row{}, 0, false
	}
	return now, next, true
}

// may tells whether pc or point may come to n.
func may(n int) bool { return n >= 0 && n <= most }
