package ssa

import (
	"slices"

	"theodolite/api"
	"theodolite/dom"
	"theodolite/parts"
)

// walk goes down the tree of a function's blocks, so that what is known of a scalar in a block is known in all that it stands over.
type walk struct {
	from     []api.Block // as they were handed in
	blocks   []api.Block // as they are to be
	into     [][]int     // the ways into each block
	below    [][]int     // of each block those that it is nearest over
	phis     [][]int     // of each block the scalars that have a Phi there
	virtuals virtuals
	stands   []int // of each virtual of the block the one that is looked at for it: of a Get what was known
	known    []int // of each variable the virtual that it is
	turned   []fact
}

// fact is what was known of a scalar, ahead of what is now.
type fact struct{ scalar, virtual int }

func walkOf(f api.Func, into [][]int) *walk {
	w := &walk{
		from:     f.Blocks,
		blocks:   make([]api.Block, len(f.Blocks)),
		into:     into,
		below:    make([][]int, len(f.Blocks)),
		virtuals: virtualsOf(f),
		stands:   make([]int, f.Size),
		known:    make([]int, len(f.Vars)),
	}
	for b, over := range dom.Over(f) {
		if over >= 0 {
			w.below[over] = append(w.below[over], b)
		}
	}
	return w
}

// heads lays the Phis, and their Binds, at the heads of all blocks: their Args come from ends that are met sooner or later than they are.
func (w *walk) heads(phis [][]int) {
	w.phis = phis
	for b, l := range phis {
		for range l {
			w.lay(b, api.Ins{Op: api.InsPhi, Dst: w.virtuals.next(), A: -1, B: -1, Var: -1, Args: make([]int, len(w.into[b]))})
		}
		for n, v := range l {
			w.lay(b, bind(v, w.blocks[b].Ins[n].Dst))
		}
	}
}

// bind says that a scalar is a virtual from there on.
func bind(v, a int) api.Ins {
	return api.Ins{Op: api.InsBind, Dst: -1, A: a, B: -1, Var: v}
}

// lay lays an instruction.
func (w *walk) lay(b int, i api.Ins) {
	w.blocks[b].Ins = append(w.blocks[b].Ins, i)
}

// down makes a block, and all that it stands over.
func (w *walk) down(b int) {
	defer w.back(len(w.turned))
	for n, v := range w.phis[b] {
		w.learn(v, w.blocks[b].Ins[n].Dst)
	}
	for _, i := range w.from[b].Ins {
		w.instruction(b, i)
	}
	w.end(b)
	for _, x := range w.below[b] {
		w.down(x)
	}
}

// learn takes it that a scalar is a virtual now.
func (w *walk) learn(scalar, virtual int) {
	w.turned = append(w.turned, fact{scalar, w.known[scalar]})
	w.known[scalar] = virtual
}

// back takes what is known to be what it was as so much had been turned.
func (w *walk) back(so int) {
	for _, was := range slices.Backward(w.turned[so:]) {
		w.known[was.scalar] = was.virtual
	}
	w.turned = w.turned[:so]
}

// instruction makes one of a block; what is left of a Get is what stands for its virtual.
func (w *walk) instruction(b int, i api.Ins) {
	i.Args = slices.Clone(i.Args)
	for v := range parts.Looks(&i) {
		*v = w.stands[*v]
	}
	switch i.Op {
	case api.InsGet:
		w.stands[i.Dst] = w.known[i.Var]
		return
	case api.InsSet:
		w.learn(i.Var, i.A)
		i = bind(i.Var, i.A)
	}
	if parts.Makes(&i) {
		w.stands[i.Dst] = i.Dst
	}
	w.lay(b, i)
}

// end makes a block's end, and gives what is known there to the Phis to which it goes.
func (w *walk) end(b int) {
	end := w.from[b].Term
	for v := range parts.LooksOfEnd(&end) {
		*v = w.stands[*v]
	}
	w.blocks[b].Term = end
	for to := range parts.Goals(&end) {
		into := w.into[to]
		first, _ := slices.BinarySearch(into, b)
		for way := first; way < len(into) && into[way] == b; way++ {
			for n, v := range w.phis[to] {
				w.blocks[to].Ins[n].Args[way] = w.known[v]
			}
		}
	}
}
