package dom

import (
	"iter"

	"theodolite/api"
)

// ends goes through a function's ways, in order: of each the block that it comes from, and the one that it goes to.
func ends(f api.Func) iter.Seq2[int, int] {
	return func(yield func(from, to int) bool) {
		for from := range f.Blocks {
			for to := range goals(f.Blocks[from].Term) {
				if !yield(from, to) {
					return
				}
			}
		}
	}
}

// goals goes through the blocks to which an end goes.
func goals(end api.Term) iter.Seq[int] {
	return func(yield func(to int) bool) {
		switch end.Kind {
		case api.TermJump:
			yield(end.To)
		case api.TermIf:
			if yield(end.To) {
				yield(end.Else)
			}
		}
	}
}

// reached goes through the blocks that are reached, each once: behind each of them all that it newly leads to, ahead of anything else. With each goes the block that it was come to from; with the first one, itself.
func reached(f api.Func) iter.Seq2[int, int] {
	type way struct{ from, to int }
	return func(yield func(from, to int) bool) {
		met := make([]bool, len(f.Blocks))
		for waits := []way{{0, 0}}; len(waits) > 0; {
			last := len(waits) - 1
			w := waits[last]
			waits = waits[:last]
			if met[w.to] {
				continue
			}
			met[w.to] = true
			if !yield(w.from, w.to) {
				return
			}
			for to := range goals(f.Blocks[w.to].Term) {
				waits = append(waits, way{w.to, to})
			}
		}
	}
}

// upward goes through a place of a list, the place that it tells of, and so on, as long as there is one. A list that goes round is left when all its places may have been met.
func upward(l []int, place int) iter.Seq[int] {
	return func(yield func(place int) bool) {
		at := place
		for range l {
			if at < 0 || at >= len(l) || !yield(at) {
				return
			}
			at = l[at]
		}
	}
}
