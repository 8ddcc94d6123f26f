package ssa

import (
	"theodolite/api"
	"theodolite/dom"
	"theodolite/parts"
)

// phisOf is of each block the scalars that have a Phi at its head, rising.
func phisOf(f api.Func) [][]int {
	edge := dom.Edge(f)
	l := make([][]int, len(f.Blocks))
	for v, sets := range setsOf(f) {
		met := metFrom(edge, sets)
		if len(met) == 0 {
			continue
		}
		bare := bareHeads(f, sets)
		for _, b := range met {
			if !bare[b] {
				l[b] = append(l[b], v)
			}
		}
	}
	return l
}

// setsOf is of each variable the blocks that have a Set of it, each once.
func setsOf(f api.Func) [][]int {
	sets := make([][]int, len(f.Vars))
	for b := range f.Blocks {
		for n := range f.Blocks[b].Ins {
			i := &f.Blocks[b].Ins[n]
			if i.Op != api.InsSet {
				continue
			}
			if l := sets[i.Var]; len(l) == 0 || l[len(l)-1] != b {
				sets[i.Var] = append(l, b)
			}
		}
	}
	return sets
}

// metFrom is the blocks that are met from some by going on by edges, once or more often.
func metFrom(edge [][]int, some []int) []int {
	var met []int
	is := make([]bool, len(edge))
	meet := func(l []int) {
		for _, b := range l {
			if !is[b] {
				is[b] = true
				met = append(met, b)
			}
		}
	}
	for _, b := range some {
		meet(edge[b])
	}
	for n := 0; n < len(met); n++ {
		meet(edge[met[n]])
	}
	return met
}

// bareHeads is of each block whether a way leads to its head that meets none of some blocks.
func bareHeads(f api.Func, some []int) []bool {
	stops := make([]bool, len(f.Blocks))
	for _, b := range some {
		stops[b] = true
	}
	bare := make([]bool, len(f.Blocks))
	bare[0] = true
	for waits := []int{0}; len(waits) > 0; {
		b := waits[len(waits)-1]
		waits = waits[:len(waits)-1]
		if stops[b] {
			continue
		}
		for to := range parts.Goals(&f.Blocks[b].Term) {
			if !bare[to] {
				bare[to] = true
				waits = append(waits, to)
			}
		}
	}
	return bare
}
