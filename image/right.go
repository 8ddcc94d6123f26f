package image

import (
	"slices"

	"theodolite/api"
	"theodolite/lines"
	"theodolite/scopes"
	"theodolite/unwind"
)

// Right: may an image be?
func Right(m api.Image) bool {
	// Code of no bytes is not asked for: there is no place in it at which to start.
	if len(m.Code) > mostCode {
		return false
	}
	l, is := Begins(m.Code)
	if !is {
		return false
	}
	begins := func(at int) bool {
		_, is := slices.BinarySearch(l, at)
		return is
	}
	return begins(m.Start) && standPlaces(m, begins) && standRows(m, begins) && standUnwinds(m)
}

// standPlaces tells whether the functions are a right table, and no instruction is cut by an end of one.
func standPlaces(m api.Image, begins func(at int) bool) bool {
	if !scopes.Right(m.Places, m.Points) {
		return false
	}
	for _, p := range m.Places {
		if !begins(p.From) || !begins(p.To) && p.To != len(m.Code) {
			return false
		}
	}
	return true
}

// standRows tells whether the rows are a right table, each at an instruction of the function that its point is of. It is asked of right places and points.
func standRows(m api.Image, begins func(at int) bool) bool {
	if !lines.Right(m.Rows) {
		return false
	}
	for _, r := range m.Rows {
		if !begins(r.Pc) || r.Point >= len(m.Points) {
			return false
		}
		f, is := scopes.In(m.Places, r.Pc)
		if !is || m.Points[r.Point].Func != f {
			return false
		}
	}
	return true
}

// standUnwinds tells whether the entries are a right table, and none goes beyond the code.
func standUnwinds(m api.Image) bool {
	return unwind.Right(m.Unwinds) && !slices.ContainsFunc(m.Unwinds, func(u api.Unwind) bool { return u.To > len(m.Code) })
}
