package sound

// tree is which blocks stand over which, by numbers: a block's own, which is above none of those that it stands over, and the one behind all of these; both are 0 of a block that no way leads to. (dom.Has goes up block by block, which is too far where each instruction asks.)
type tree struct{ own, behind []int }

// treeOf is made of what dom.Over tells.
func treeOf(over []int) tree {
	t := tree{make([]int, len(over)), make([]int, len(over))}
	below := make([][]int, len(over))
	for b, a := range over {
		if a >= 0 {
			below[a] = append(below[a], b)
		}
	}
	var row []int
	for waits := []int{0}; len(waits) > 0; {
		b := waits[len(waits)-1]
		waits = append(waits[:len(waits)-1], below[b]...)
		row = append(row, b)
		t.own[b] = len(row)
		t.behind[b] = len(row) + 1
	}
	for n := len(row) - 1; n > 0; n-- {
		b := row[n]
		t.behind[over[b]] = max(t.behind[over[b]], t.behind[b])
	}
	return t
}

// reaches tells whether a way leads to a block.
func (t tree) reaches(b int) bool { return t.own[b] > 0 }

// has tells whether a block stands over another one.
func (t tree) has(a, b int) bool { return t.own[a] <= t.own[b] && t.own[b] < t.behind[a] }
