package dom_test

import (
	"slices"

	"theodolite/api"
)

// The chapter's words, taken as they stand.

// model is of a function the ways into each block; which blocks are reached; which stands over which (over[a][b]).
type model struct {
	into    [][]int
	reached []bool
	over    [][]bool
}

func goals(e api.Term) []int {
	switch e.Kind {
	case api.TermJump:
		return []int{e.To}
	case api.TermIf:
		return []int{e.To, e.Else}
	}
	return nil
}

// metWithout are the blocks to which a way goes that does not meet one of them (-1: any way).
func metWithout(f api.Func, gone int) []bool {
	met := make([]bool, len(f.Blocks))
	row := []int{0}
	for len(row) > 0 {
		b := row[0]
		row = row[1:]
		if b == gone || met[b] {
			continue
		}
		met[b] = true
		row = append(row, goals(f.Blocks[b].Term)...)
	}
	return met
}

func modelOf(f api.Func) model {
	m := model{into: make([][]int, len(f.Blocks)), reached: metWithout(f, -1)}
	for b, x := range f.Blocks {
		for _, to := range goals(x.Term) {
			m.into[to] = append(m.into[to], b)
		}
	}
	for a := range f.Blocks {
		met := metWithout(f, a)
		row := make([]bool, len(f.Blocks))
		for b := range row {
			row[b] = m.reached[a] && m.reached[b] && !met[b]
		}
		m.over = append(m.over, row)
	}
	return m
}

// nearest is of each block, of all others that stand over it, the one that all of these stand over; -1, if there are none.
func (m model) nearest() []int {
	var l []int
	for b := range m.reached {
		near := -1
		for a := range m.reached {
			if a != b && m.over[a][b] && (near < 0 || m.over[near][a]) {
				near = a
			}
		}
		l = append(l, near)
	}
	return l
}

// edges are of each block that is reached where what it stands over ends.
func (m model) edges() [][]int {
	l := make([][]int, len(m.into))
	for a := range l {
		for b := range l {
			if m.reached[a] && (!m.over[a][b] || a == b) && slices.ContainsFunc(m.into[b], func(from int) bool { return m.over[a][from] }) {
				l[a] = append(l[a], b)
			}
		}
	}
	return l
}
