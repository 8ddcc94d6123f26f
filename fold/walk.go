package fold

import (
	"slices"

	"theodolite/api"
	"theodolite/parts"
)

// walk goes along a function's ways, at a TermIf whose A is a Const only to where that says. Whatever stands over a block is met ahead of it: so, when an instruction is met, it is known of all that it looks at whether a Const makes it. (Not of what a Phi looks at; but that stays a Phi.)
type walk struct {
	from   []api.Block // as they were handed in
	blocks []api.Block // as they are to be, but for numbers of blocks, and Args of Phis
	met    []bool      // of each block whether a way leads to it
	goes   [][2]bool   // of each block which ways of the end that was handed in are left
	known  []value     // of each virtual what it is
}

// value is what a virtual is, if a Const makes it.
type value struct {
	is bool
	n  int64
}

func walkOf(f api.Func) *walk {
	return &walk{
		from:   f.Blocks,
		blocks: make([]api.Block, len(f.Blocks)),
		met:    make([]bool, len(f.Blocks)),
		goes:   make([][2]bool, len(f.Blocks)),
		known:  make([]value, f.Size),
	}
}

func (w *walk) through() {
	for waits := []int{0}; len(waits) > 0; {
		b := waits[len(waits)-1]
		waits = waits[:len(waits)-1]
		if w.met[b] {
			continue
		}
		w.met[b] = true
		w.block(b)
		waits = slices.AppendSeq(waits, parts.Goals(&w.blocks[b].Term))
	}
}

func (w *walk) block(b int) {
	l := make([]api.Ins, 0, len(w.from[b].Ins))
	for _, i := range w.from[b].Ins {
		l = append(l, w.instruction(i))
	}
	w.blocks[b].Ins = l
	w.end(b)
}

// instruction is what becomes of one: a Const, if it is an operation that can be reckoned.
func (w *walk) instruction(i api.Ins) api.Ins {
	i.Args = slices.Clone(i.Args)
	if n, is := w.comesTo(&i); is {
		i = api.Ins{Op: api.InsConst, Dst: i.Dst, A: -1, B: -1, Var: -1, Num: n}
	}
	if i.Op == api.InsConst {
		w.known[i.Dst] = value{true, i.Num}
	}
	return i
}

// comesTo is what an operation comes to whose sides are all known.
func (w *walk) comesTo(i *api.Ins) (n int64, is bool) {
	if i.Op < api.OpAdd || i.Op > api.OpNeg {
		return 0, false
	}
	var sides [2]int64
	so := 0
	for v := range parts.Looks(i) {
		if !w.known[*v].is {
			return 0, false
		}
		sides[so] = w.known[*v].n
		so++
	}
	return reckon(i.Op, sides[0], sides[1])
}

// end makes a block's end: it jumps, if it is known where a TermIf goes.
func (w *walk) end(b int) {
	end := w.from[b].Term
	w.goes[b] = [2]bool{true, true}
	if end.Kind == api.TermIf && w.known[end.A].is {
		to := w.known[end.A].n != 0
		w.goes[b] = [2]bool{to, !to}
		if !to {
			end.To = end.Else
		}
		end = api.Term{Kind: api.TermJump, To: end.To}
	}
	w.blocks[b].Term = end
}
