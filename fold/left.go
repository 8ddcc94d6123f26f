package fold

import (
	"theodolite/api"
	"theodolite/parts"
)

// left are the blocks to which a way leads, in their order, with the ways that are left.
func (w *walk) left() []api.Block {
	var l []api.Block
	number, ways := w.numbers(), w.ways()
	for b, x := range w.blocks {
		if !w.met[b] {
			continue
		}
		for n := 0; n < len(x.Ins) && x.Ins[n].Op == api.InsPhi; n++ {
			x.Ins[n].Args = those(x.Ins[n].Args, ways[b])
		}
		lead(&x.Term, number)
		l = append(l, x)
	}
	return l
}

// numbers is of each block that is left its number among these.
func (w *walk) numbers() []int {
	number := make([]int, len(w.met))
	so := 0
	for b, is := range w.met {
		number[b] = so
		if is {
			so++
		}
	}
	return number
}

// ways is of each block, of each way into it that there was, whether it is left.
func (w *walk) ways() [][]bool {
	ways := make([][]bool, len(w.from))
	for b := range w.from {
		side := 0
		for to := range parts.Goals(&w.from[b].Term) {
			ways[to] = append(ways[to], w.goes[b][side])
			side++
		}
	}
	return ways
}

// those are the numbers of a list that are wanted.
func those(l []int, wanted []bool) []int {
	var some []int
	for n, is := range wanted {
		if is {
			some = append(some, l[n])
		}
	}
	return some
}

// lead lets an end go to the blocks' numbers.
func lead(end *api.Term, number []int) {
	switch end.Kind {
	case api.TermIf:
		end.To, end.Else = number[end.To], number[end.Else]
	case api.TermJump:
		end.To = number[end.To]
	}
}
