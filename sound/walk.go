package sound

import (
	"theodolite/api"
	"theodolite/dom"
	"theodolite/parts"
)

// walk goes through a function's places.
type walk struct {
	number int
	blocks []api.Block
	at     place
	into   [][]int // the ways into each block
	over   tree
	made   []place // of each virtual where it is made; in block -1, if it never is
	marked []bool  // of each point whether a Mark of it was met
}

// walkOf is of function n. A Mark's point is of its own function, so that one list of those that were met is enough for all.
func walkOf(u api.Unit, n int, marked []bool) *walk {
	f := u.Funcs[n]
	return &walk{
		number: n,
		blocks: f.Blocks,
		into:   dom.Ways(f),
		over:   treeOf(dom.Over(f)),
		made:   madeIn(f),
		marked: marked,
	}
}

// madeIn is of each virtual where it is made.
func madeIn(f api.Func) []place {
	l := make([]place, f.Size)
	for v := range l {
		l[v].block = -1
	}
	for b := range f.Blocks {
		for n := range f.Blocks[b].Ins {
			i := &f.Blocks[b].Ins[n]
			if parts.Makes(i) && l[i.Dst].block < 0 {
				l[i.Dst] = place{b, n}
			}
		}
	}
	return l
}

// must throws the place, unless what must be there is.
func (w *walk) must(is bool) {
	if !is {
		panic(wrong{w.number, w.at})
	}
}

func (w *walk) through() {
	for b := range w.blocks {
		l := w.blocks[b].Ins
		w.at = place{b, 0}
		w.must(w.over.reaches(b))
		for n := range l {
			w.at.ins = n
			w.instruction(&l[n])
		}
		w.at.ins = len(l)
		for v := range parts.LooksOfEnd(&w.blocks[b].Term) {
			w.must(w.isThere(*v, w.at))
		}
	}
}

func (w *walk) instruction(i *api.Ins) {
	switch i.Op {
	case api.InsGet, api.InsSet:
		w.must(false)
	case api.InsMark:
		w.must(!w.marked[i.Num])
		w.marked[i.Num] = true
	case api.InsPhi:
		for way, from := range w.into[w.at.block] {
			w.must(w.isThere(i.Args[way], place{from, len(w.blocks[from].Ins)}))
		}
	default:
		for v := range parts.Looks(i) {
			w.must(w.isThere(*v, w.at))
		}
	}
	if parts.Makes(i) {
		w.must(w.made[i.Dst] == w.at)
	}
}

// isThere tells whether a virtual is there at a place.
func (w *walk) isThere(v int, at place) bool {
	m := w.made[v]
	if m.block == at.block {
		return m.ins < at.ins
	}
	return m.block >= 0 && w.over.has(m.block, at.block)
}
