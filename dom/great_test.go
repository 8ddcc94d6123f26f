package dom_test

import (
	"testing"

	"theodolite/api"
	"theodolite/dom"
)

// Functions of as many blocks as there may be.

// great is a function of MaxBlocks blocks with ends as a rule has them; what would go below 0, or above the last one, goes there.
func great(rule func(b, last int) api.Term) api.Func {
	f := function()
	last := api.MaxBlocks - 1
	for b := range api.MaxBlocks {
		e := rule(b, last)
		if e.Kind != api.TermRet {
			e.To, e.Else = min(max(e.To, 0), last), min(max(e.Else, 0), last)
		}
		f.Blocks = append(f.Blocks, api.Block{Term: e})
	}
	return f
}

// split is one of two ends.
func split(is bool, yes, no api.Term) api.Term {
	if is {
		return yes
	}
	return no
}

func TestGreat(t *testing.T) {
	next := dice(5)
	for _, c := range []struct {
		name string
		rule func(b, last int) api.Term
	}{
		{"a row", func(b, last int) api.Term { return split(b == last, ret(), jump(b+1)) }},
		{"a row from behind", func(b, last int) api.Term { return split(b == 0, jump(last), jump(b-1)) }},
		{"a round", func(b, last int) api.Term { return split(b == last, jump(0), jump(b+1)) }},
		{"all to one", func(b, last int) api.Term { return split(b == last, ret(), fork(b+1, last)) }},
		{"all to the first", func(b, last int) api.Term { return fork(b+1, 0) }},
		{"all to themselves", func(b, last int) api.Term { return fork(b+1, b) }},
		{"there and back", func(b, last int) api.Term { return fork(b+1, b-1) }},
		{"one or two on", func(b, last int) api.Term { return fork(b+1, b+2) }},
		{"two on, one back", func(b, last int) api.Term { return fork(b+2, b-1) }},
		{"far on, one back", func(b, last int) api.Term { return fork(b+44, b-1) }},
		{"a tree", func(b, last int) api.Term { return fork(2*b+1, 2*b+2) }},
		{"from both sides inward", func(b, last int) api.Term { return split(b < last/2, fork(last-b, b+1), fork(last-b, b-1)) }},
		{"fors in fors", func(b, last int) api.Term { return split(b < last/2, fork(b+1, last-b), jump(last-b-1)) }},
		{"ifs in ifs", func(b, last int) api.Term {
			return split(b <= last/2, fork(b+1, last-b), split(b == last, ret(), jump(b+1)))
		}},
		{"most not reached", func(b, last int) api.Term { return split(b < 20, fork(b/2, b), fork(b+1, b-9)) }},
		{"thrown", func(b, last int) api.Term { return fork(next(last+1), next(last+1)) }},
		{"thrown nearby", func(b, last int) api.Term { return fork(b+next(9)-3, b+next(9)-3) }},
		{"thrown, most on", func(b, last int) api.Term { return split(next(50) == 0, fork(b+1, next(last+1)), jump(b+1)) }},
	} {
		t.Run(c.name, func(t *testing.T) { isRight(t, great(c.rule), 97) })
	}
}

// The calls are quick enough to be asked often.
func TestOften(t *testing.T) {
	f := great(func(b, last int) api.Term { return fork(b+2, b-1) })
	for range 30 {
		if n := len(dom.Over(f)) + len(dom.Edge(f)) + len(dom.Ways(f)); n != 3*api.MaxBlocks {
			t.Fatal(n)
		}
	}
}
