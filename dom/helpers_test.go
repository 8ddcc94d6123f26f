package dom_test

import (
	"fmt"
	"slices"
	"strings"
	"testing"

	"theodolite/api"
	"theodolite/dom"
)

// Ends. What an end does not have is not 0 here: it may say anything.

func jump(to int) api.Term { return api.Term{Kind: api.TermJump, A: 7, To: to, Else: 1} }

func fork(to, other int) api.Term { return api.Term{Kind: api.TermIf, To: to, Else: other} }

func ret() api.Term { return api.Term{Kind: api.TermRet, A: -1, To: 1, Else: 2} }

// function is one of blocks with these ends.
func function(ends ...api.Term) api.Func {
	f := api.Func{Name: "f", Size: 8}
	for _, e := range ends {
		f.Blocks = append(f.Blocks, api.Block{Term: e})
	}
	return f
}

// tell is a function's ends as a text, if they are not many.
func tell(f api.Func) string {
	if len(f.Blocks) > 60 {
		return fmt.Sprintf("%d blocks", len(f.Blocks))
	}
	var l []string
	for n, b := range f.Blocks {
		l = append(l, fmt.Sprintf("%d to %v", n, goals(b.Term)))
	}
	return strings.Join(l, ", ")
}

// lists are the same, if each of them has the same numbers; nil and empty are.
func sameLists(a, b [][]int) bool { return slices.EqualFunc(a, b, slices.Equal[[]int]) }

// isRight: all calls answer of a function what the model says, and Over is a tree (P15.3). Which of the numbers of its blocks Has is asked of: every step'th one.
func isRight(t *testing.T, f api.Func, step int) {
	t.Helper()
	m := modelOf(f)
	if got, want := dom.Ways(f), m.into; !sameLists(got, want) {
		t.Fatalf("Ways(%s): %v, want %v", tell(f), got, want)
	}
	over, want := dom.Over(f), m.nearest()
	if !slices.Equal(over, want) {
		t.Fatalf("Over(%s): %v, want %v", tell(f), over, want)
	}
	if b, is := noTree(over, m); is {
		t.Fatalf("Over(%s): %v: block %d hangs on no tree", tell(f), over, b)
	}
	if got, want := dom.Edge(f), m.edges(); !sameLists(got, want) {
		t.Fatalf("Edge(%s): %v, want %v", tell(f), got, want)
	}
	for a := 0; a < len(over); a += step {
		for b := 0; b < len(over); b += step {
			// A block that is not reached is met going from itself, as Has is told.
			if got, want := dom.Has(over, a, b), m.over[a][b] || a == b; got != want {
				t.Fatalf("Has(Over(%s), %d, %d): %v, want %v", tell(f), a, b, got, want)
			}
		}
	}
}

// noTree is a block that is reached from which going by Over does not end at the first one; or one that is not reached, and yet hangs on one.
func noTree(over []int, m model) (int, bool) {
	for b := range over {
		if !m.reached[b] || b == 0 {
			if over[b] != -1 {
				return b, true
			}
			continue
		}
		at := b
		for range over {
			if at > 0 {
				at = over[at]
			}
		}
		if at != 0 {
			return b, true
		}
	}
	return 0, false
}

// dice are numbers that look thrown, the same ones each time: each call answers one from 0 on, below n.
func dice(seed uint64) func(n int) int {
	return func(n int) int {
		seed = seed*6364136223846793005 + 1442695040888963407
		return int(seed>>33) % n
	}
}
