package dom_test

import (
	"testing"

	"theodolite/api"
)

// thrown is a function whose ends look thrown; near says how far they go from their block at most.
func thrown(next func(int) int, blocks, near int) api.Func {
	f := function()
	goal := func(b int) int {
		return min(max(b-near+next(2*near+1), 0), blocks-1)
	}
	for b := range blocks {
		e := ret()
		switch next(8) {
		case 0, 1, 2:
			e = jump(goal(b))
		case 3, 4, 5, 6:
			e = fork(goal(b), goal(b))
		}
		f.Blocks = append(f.Blocks, api.Block{Term: e})
	}
	return f
}

func TestThrown(t *testing.T) {
	next := dice(15)
	for range 20000 {
		blocks := 1 + next(14)
		isRight(t, thrown(next, blocks, 1+next(blocks)), 1)
	}
	for range 300 {
		blocks := 15 + next(60)
		isRight(t, thrown(next, blocks, 1+next(blocks)), 1)
	}
}
