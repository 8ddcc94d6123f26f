package dom

import "theodolite/api"

// search is how the blocks that are reached were come to. They have numbers, in the order in which that was; as it went, each way from one to a higher one meets a block from which the search came to both.
type search struct {
	blocks []int // of each number the block
	number []int // of each block the number; -1, if it is not reached
	up     []int // of each number the one of the block that it was come to from; -1 of the first one
}

func searched(f api.Func) search {
	s := search{number: make([]int, len(f.Blocks))}
	for b := range s.number {
		s.number[b] = -1
	}
	for from, b := range reached(f) {
		s.up = append(s.up, s.number[from]) // the first one has no number yet
		s.number[b] = len(s.blocks)
		s.blocks = append(s.blocks, b)
	}
	return s
}

// furthest is of each number the lowest one from which a way goes to it through higher ones alone. What lies between the two, on the way of the search, stands over it no more.
func (s search) furthest(into [][]int) []int {
	far := make([]int, len(s.blocks))
	for n := len(far) - 1; n > 0; n-- {
		far[n] = s.up[n]
		for _, from := range into[s.blocks[n]] {
			for x := range upward(s.up, s.number[from]) {
				if x <= n {
					far[n] = min(far[n], x)
					break
				}
				far[n] = min(far[n], far[x]) // by x the search goes on to where this way comes from
			}
		}
	}
	return far
}

// nearest is of each number the one that is nearest over it (0 of the first one, too): of those over the one that the search came from, the first that no way passes by.
func (s search) nearest(far []int) []int {
	near := make([]int, len(far))
	for n := 1; n < len(near); n++ {
		for x := range upward(near, s.up[n]) {
			if x <= far[n] {
				near[n] = x
				break
			}
		}
	}
	return near
}
