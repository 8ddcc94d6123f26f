package dom_test

import (
	"slices"
	"testing"

	"theodolite/api"
	"theodolite/dom"
)

// The chapter's example.
func TestExample(t *testing.T) {
	f := function(fork(1, 2), jump(3), jump(3), fork(1, 4), ret())
	if got, want := dom.Ways(f), [][]int{{}, {0, 3}, {0}, {1, 2}, {3}}; !sameLists(got, want) {
		t.Errorf("Ways: %v, want %v", got, want)
	}
	over := dom.Over(f)
	if want := []int{-1, 0, 0, 0, 3}; !slices.Equal(over, want) {
		t.Errorf("Over: %v, want %v", over, want)
	}
	if got, want := dom.Edge(f), [][]int{{}, {3}, {3}, {1}, {}}; !sameLists(got, want) {
		t.Errorf("Edge: %v, want %v", got, want)
	}
	for _, c := range []struct {
		a, b int
		want bool
	}{{0, 0, true}, {0, 4, true}, {3, 4, true}, {4, 4, true}, {1, 3, false}, {4, 3, false}, {3, 0, false}, {1, 2, false}} {
		if got := dom.Has(over, c.a, c.b); got != c.want {
			t.Errorf("Has(%d, %d): %v, want %v", c.a, c.b, got, c.want)
		}
	}
}

// shape is a function, and what it comes to.
type shape struct {
	name string
	ends []api.Term
	into [][]int
	over []int
	edge [][]int
}

func TestShapes(t *testing.T) {
	for _, s := range []shape{
		{"one block", []api.Term{ret()}, [][]int{{}}, []int{-1}, [][]int{{}}},
		{"one block that goes to itself", []api.Term{jump(0)}, [][]int{{0}}, []int{-1}, [][]int{{0}}},
		{"twice to itself", []api.Term{fork(0, 0)}, [][]int{{0, 0}}, []int{-1}, [][]int{{0}}},
		{"a row", []api.Term{jump(1), jump(2), ret()}, [][]int{{}, {0}, {1}}, []int{-1, 0, 1}, [][]int{{}, {}, {}}},
		{"a row from behind", []api.Term{jump(2), ret(), jump(1)}, [][]int{{}, {2}, {0}}, []int{-1, 2, 0}, [][]int{{}, {}, {}}},
		{"both ways the same", []api.Term{fork(1, 1), ret()}, [][]int{{}, {0, 0}}, []int{-1, 0}, [][]int{{}, {}}},
		{"To ahead of Else", []api.Term{fork(2, 1), fork(2, 1), fork(1, 2)}, [][]int{{}, {0, 1, 2}, {0, 1, 2}}, []int{-1, 0, 0}, [][]int{{}, {1, 2}, {1, 2}}},
		{"an if", []api.Term{fork(1, 2), jump(3), jump(3), ret()}, [][]int{{}, {0}, {0}, {1, 2}}, []int{-1, 0, 0, 0}, [][]int{{}, {3}, {3}, {}}},
		{"an if without else", []api.Term{fork(1, 2), jump(2), ret()}, [][]int{{}, {0}, {0, 1}}, []int{-1, 0, 0}, [][]int{{}, {2}, {}}},
		{"a for", []api.Term{jump(1), fork(2, 3), jump(1), ret()}, [][]int{{}, {0, 2}, {1}, {1}}, []int{-1, 0, 1, 1}, [][]int{{}, {1}, {1}, {}}},
		{"a for that only a return leaves", []api.Term{jump(1), fork(2, 3), jump(1), ret(), ret()}, [][]int{{}, {0, 2}, {1}, {1}, {}}, []int{-1, 0, 1, 1, -1}, [][]int{{}, {1}, {1}, {}, {}}},
		{"a for in a for", []api.Term{jump(1), fork(2, 5), fork(3, 4), jump(2), jump(1), ret()},
			[][]int{{}, {0, 4}, {1, 3}, {2}, {2}, {1}}, []int{-1, 0, 1, 2, 2, 1}, [][]int{{}, {1}, {1, 2}, {2}, {1}, {}}},
		{"back to the first one", []api.Term{fork(1, 2), jump(0), ret()}, [][]int{{1}, {0}, {0}}, []int{-1, 0, 0}, [][]int{{0}, {0}, {}}},
		{"two that go to each other, each from without", []api.Term{fork(1, 2), jump(2), fork(1, 3), ret()},
			[][]int{{}, {0, 2}, {0, 1}, {2}}, []int{-1, 0, 0, 2}, [][]int{{}, {2}, {1}, {}}},
		{"an edge of itself and others", []api.Term{fork(1, 3), fork(1, 2), fork(3, 1), ret()},
			[][]int{{}, {0, 1, 2}, {1}, {0, 2}}, []int{-1, 0, 1, 0}, [][]int{{}, {1, 3}, {1, 3}, {}}},
	} {
		f := function(s.ends...)
		if got := dom.Ways(f); !sameLists(got, s.into) {
			t.Errorf("%s: Ways: %v, want %v", s.name, got, s.into)
		}
		if got := dom.Over(f); !slices.Equal(got, s.over) {
			t.Errorf("%s: Over: %v, want %v", s.name, got, s.over)
		}
		if got := dom.Edge(f); !sameLists(got, s.edge) {
			t.Errorf("%s: Edge: %v, want %v", s.name, got, s.edge)
		}
		isRight(t, f, 1)
	}
}

// What is not reached stands over nothing, and nothing over it; but its ways are ways (14).
func TestNotReached(t *testing.T) {
	for _, s := range []shape{
		{"alone", []api.Term{ret(), ret()}, [][]int{{}, {}}, []int{-1, -1}, [][]int{{}, {}}},
		{"to itself", []api.Term{ret(), jump(1)}, [][]int{{}, {1}}, []int{-1, -1}, [][]int{{}, {}}},
		{"to the first one", []api.Term{ret(), jump(0)}, [][]int{{1}, {}}, []int{-1, -1}, [][]int{{}, {}}},
		{"round", []api.Term{ret(), fork(2, 0), jump(1)}, [][]int{{1}, {2}, {1}}, []int{-1, -1, -1}, [][]int{{}, {}, {}}},
		{"into what is reached", []api.Term{jump(1), ret(), jump(1), jump(2)}, [][]int{{}, {0, 2}, {3}, {}}, []int{-1, 0, -1, -1}, [][]int{{}, {}, {}, {}}},
		{"between", []api.Term{jump(2), jump(2), fork(2, 3), ret()}, [][]int{{}, {}, {0, 1, 2}, {2}}, []int{-1, -1, 0, 2}, [][]int{{}, {}, {2}, {}}},
	} {
		f := function(s.ends...)
		if got := dom.Ways(f); !sameLists(got, s.into) {
			t.Errorf("%s: Ways: %v, want %v", s.name, got, s.into)
		}
		if got := dom.Over(f); !slices.Equal(got, s.over) {
			t.Errorf("%s: Over: %v, want %v", s.name, got, s.over)
		}
		if got := dom.Edge(f); !sameLists(got, s.edge) {
			t.Errorf("%s: Edge: %v, want %v", s.name, got, s.edge)
		}
		isRight(t, f, 1)
	}
}

// ends are all that a block of a function of so many may have.
func ends(blocks int) []api.Term {
	l := []api.Term{ret()}
	for to := range blocks {
		l = append(l, jump(to))
		for other := range blocks {
			l = append(l, fork(to, other))
		}
	}
	return l
}

// All functions of up to four blocks.
func TestAllSmall(t *testing.T) {
	count := 0
	for blocks := 1; blocks <= 4; blocks++ {
		all := ends(blocks)
		turns := make([]int, blocks)
		for at := 0; at < blocks; {
			f := function()
			for _, k := range turns {
				f.Blocks = append(f.Blocks, api.Block{Term: all[k]})
			}
			isRight(t, f, 1)
			count++
			for at = 0; at < blocks; at++ {
				if turns[at]++; turns[at] < len(all) {
					break
				}
				turns[at] = 0
			}
		}
	}
	if count != 3+7*7+13*13*13+21*21*21*21 {
		t.Errorf("%d functions", count)
	}
}

// Only ends lead anywhere: what stands in blocks, and what a function is beside them, says nothing here.
func TestWhatIsNotLookedAt(t *testing.T) {
	bare := function(fork(1, 2), jump(3), jump(3), fork(1, 4), ret())
	f := function(fork(1, 2), jump(3), jump(3), fork(1, 4), ret())
	f.Name, f.Params, f.Result, f.Size = "main", 1, true, 0
	f.Vars = []api.Var{{Name: "x", Type: api.Type{Kind: api.TyInt}, Words: 1}}
	for b := range f.Blocks {
		f.Blocks[b].Ins = []api.Ins{
			{Op: api.InsPhi, Dst: b, A: -1, B: -1, Var: -1, Args: []int{4, 4}},
			{Op: api.InsCall, Dst: -1, A: 3, B: 2, Var: 1, Num: 4, Args: []int{0, 1, 2}},
			{Op: api.TermJump, Dst: 4, A: 4, B: 4, Num: 4},
		}
		f.Blocks[b].Term.A = 2
	}
	if got, want := dom.Ways(f), dom.Ways(bare); !sameLists(got, want) {
		t.Errorf("Ways: %v, want %v", got, want)
	}
	if got, want := dom.Over(f), dom.Over(bare); !slices.Equal(got, want) {
		t.Errorf("Over: %v, want %v", got, want)
	}
	if got, want := dom.Edge(f), dom.Edge(bare); !sameLists(got, want) {
		t.Errorf("Edge: %v, want %v", got, want)
	}
}
