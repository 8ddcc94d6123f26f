package fold_test

import (
	"testing"

	"theodolite/api"
)

// All functions of up to four blocks: each end that forks looks at a Const that is 0, at one that is not, or at an input; where ways come in it is printed by which of them, and how many they were.
func TestAllOfFew(t *testing.T) {
	count := 0
	for n := 1; n <= 4; n++ {
		for ends := range endsOf(n) {
			isRight(t, withEnds(ends), run{7, []int64{1, 0, 1, 1, 0, 0}}, run{7, []int64{0, 1, 1, 0, 1, 1}})
			count++
		}
	}
	if count < 9000 {
		t.Errorf("%d units", count)
	}
}

// What a fork of these functions looks at.
const (
	lookAtNought = 0
	lookAtOne    = 1
	lookAtInput  = 2
)

// endsOf goes through all ends of so many blocks of which a way leads to each. Of three, none of them leads back to the first one; of four likewise, and a fork's To is lower than its Else.
func endsOf(n int) func(yield func(l []api.Term) bool) {
	all := []api.Term{ret(-1)}
	for to := range n {
		if to == 0 && n > 2 {
			continue
		}
		all = append(all, jump(to))
		for other := range n {
			if n > 2 && other == 0 || n > 3 && to >= other {
				continue
			}
			for _, at := range []int{lookAtNought, lookAtOne, lookAtInput} {
				all = append(all, fork(at, to, other))
			}
		}
	}
	count := 1
	for range n {
		count *= len(all)
	}
	return func(yield func(l []api.Term) bool) {
		for code := range count {
			l := make([]api.Term, n)
			var blocks []api.Block
			for b, rest := 0, code; b < n; b, rest = b+1, rest/len(all) {
				l[b] = all[rest%len(all)]
				blocks = append(blocks, block(l[b]))
			}
			if len(reachedOf(blocks)) == n && !yield(l) {
				return
			}
		}
	}
}

// withEnds is a unit with these ends. Block b makes 10b, 10b + 1 and 10b + 2, the last two for its two ways on.
func withEnds(ends []api.Term) api.Unit {
	u := inMain()
	f := &u.Funcs[0]
	for _, e := range ends {
		f.Blocks = append(f.Blocks, block(e))
	}
	into := waysInto(f)
	const each = 5 // virtuals
	f.Size = each * len(ends)
	for b := range f.Blocks {
		x, first := &f.Blocks[b], each*b
		if b > 0 {
			come := phi(first+4, make([]int, len(into[b]))...)
			for way, from := range into[b] {
				side := 1
				if way > 0 && into[b][way-1] == from || ends[from].To != b {
					side = 2
				}
				come.Args[way] = each*from + side
			}
			x.Ins = append(x.Ins, come)
		}
		x.Ins = append(x.Ins, mark(int64(b)))
		if b > 0 {
			x.Ins = append(x.Ins, put(first+4))
		}
		for k := range 3 {
			x.Ins = append(x.Ins, num(first+k, int64(10*b+k)))
		}
		if x.Term.Kind != api.TermIf {
			continue
		}
		x.Ins = append(x.Ins, []api.Ins{two(api.OpSub, first+3, first, first), two(api.OpLt, first+3, first, first+1), input(first + 3)}[x.Term.A])
		x.Term.A = first + 3
	}
	return u
}
