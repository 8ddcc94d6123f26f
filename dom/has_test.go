package dom_test

import (
	"math"
	"slices"
	"testing"

	"theodolite/dom"
)

// has is what the chapter says of any list: is a b, or met going from b on, ahead of what is no place, or was met already?
func has(over []int, a, b int) bool {
	met := map[int]bool{}
	for 0 <= b && b < len(over) && !met[b] {
		if a == b {
			return true
		}
		met[b] = true
		b = over[b]
	}
	return false
}

// All lists of up to four numbers from below 0 to above them, asked of all numbers like these.
func TestHasOfAnyList(t *testing.T) {
	for length := range 5 {
		least, most := -2, length+1
		over := make([]int, length)
		for i := range over {
			over[i] = least
		}
		for at, first := 0, true; first || at < length; first = false {
			for a := least; a <= most; a++ {
				for b := least; b <= most; b++ {
					if got, want := dom.Has(over, a, b), has(over, a, b); got != want {
						t.Fatalf("Has(%v, %d, %d): %v, want %v", over, a, b, got, want)
					}
				}
			}
			for at = 0; at < length; at++ {
				if over[at]++; over[at] <= most {
					break
				}
				over[at] = least
			}
		}
	}
}

func TestHas(t *testing.T) {
	far := []int{math.MinInt, math.MinInt + 1, -7, -1, 7, math.MaxInt - 1, math.MaxInt}
	tree := []int{-1, 0, 0, 1, 1, 3, -1}
	for _, c := range []struct {
		over []int
		a, b int
		want bool
	}{
		{nil, 0, 0, false}, {[]int{}, 0, 0, false}, {nil, -1, -1, false},
		{tree, 0, 5, true}, {tree, 1, 5, true}, {tree, 3, 5, true}, {tree, 5, 5, true}, {tree, 4, 5, false}, {tree, 2, 5, false}, {tree, 5, 3, false},
		{tree, 6, 6, true}, {tree, 0, 6, false}, {tree, 6, 0, false}, {tree, 0, 0, true}, {tree, -1, 0, false}, {tree, -1, 6, false}, {tree, 7, 7, false},
		{far, 0, 0, true}, {far, 4, 4, true}, {far, 6, 4, false}, {far, 0, 5, false}, {far, math.MaxInt, 6, false}, {far, math.MinInt, 0, false},
		// What is met going round is met; what is not, is not.
		{[]int{0}, 0, 0, true}, {[]int{1, 0}, 0, 1, true}, {[]int{1, 0, 0}, 2, 1, false}, {[]int{1, 2, 3, 1}, 3, 0, true}, {[]int{1, 2, 3, 1}, 0, 3, false},
		{[]int{1, 2, 3, 3}, 3, 0, true},
	} {
		if got := dom.Has(c.over, c.a, c.b); got != c.want {
			t.Errorf("Has(%v, %d, %d): %v, want %v", c.over, c.a, c.b, got, c.want)
		}
	}
	for _, n := range far {
		for b := range far {
			if dom.Has(far, n, b) || dom.Has(tree, b, n) || dom.Has(tree, n, b) {
				t.Errorf("Has of %d and %d", n, b)
			}
		}
	}
}

// Great lists: one chain, and one that goes round.
func TestHasOfGreatLists(t *testing.T) {
	const length = 1 << 20
	chain := make([]int, length)
	for i := range chain {
		chain[i] = i - 1
	}
	round := slices.Clone(chain)
	round[0] = length - 1
	if !dom.Has(chain, 0, length-1) || dom.Has(chain, length-1, 0) || dom.Has(chain, length-1, length-2) {
		t.Error("a chain")
	}
	if !dom.Has(round, 0, length-1) || !dom.Has(round, length-1, length-2) || dom.Has(round, length, 3) || dom.Has(round, -1, 3) {
		t.Error("a round")
	}
	round[1] = 3
	if dom.Has(round, 0, length-1) || dom.Has(round, length-1, 2) || !dom.Has(round, 3, 1) || !dom.Has(round, 1, length-1) {
		t.Error("a chain that ends in a round")
	}
}
