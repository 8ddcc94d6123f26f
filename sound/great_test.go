package sound_test

import (
	"slices"
	"testing"

	"theodolite/api"
)

// Units as great as they may be.

// chain is a row of as many blocks as may be, and of as many instructions: each of them makes a virtual, and looks at one of the first block; Phis have one Arg.
func chain() []api.Block {
	l := rowOf(api.MaxBlocks)
	size := 0
	for b := range l {
		n := api.MaxIns / api.MaxBlocks
		if b == len(l)-1 {
			n = api.MaxIns - size
		}
		for k := range n {
			i := one(api.OpNot, size, k%9)
			switch {
			case b == 0:
				i = num(size, 1)
			case k < 3:
				i = phi(size, k)
			}
			l[b].Ins = append(l[b].Ins, i)
			size++
		}
	}
	return l
}

func TestAsManyAsMayBe(t *testing.T) {
	u := inMain(chain()...)
	u.Funcs[0].Size = api.MaxIns
	for range 6 {
		u.Funcs = append(u.Funcs, u.Funcs[0])
	}
	answers(t, u, answer{})
	last := len(u.Funcs) - 1
	l := slices.Clone(u.Funcs[0].Blocks)
	ins := slices.Clone(l[api.MaxBlocks-1].Ins)
	l[api.MaxBlocks-1].Ins = ins
	u.Funcs[last].Blocks = l
	at := len(ins) - 1
	was := ins[at]
	for _, i := range []api.Ins{one(api.OpNot, was.Dst, was.Dst), one(api.OpNot, 0, 0), get(was.Dst, 0)} {
		ins[at] = i
		answers(t, u, answer{last, api.MaxBlocks - 1, at, api.ErrWrong})
	}
	ins[at] = was
	l[api.MaxBlocks-1].Term = ret(was.Dst)
	answers(t, u, answer{})
	l[api.MaxBlocks-1].Ins = append(ins, mark(0))
	answers(t, u, answer{e: api.ErrArg})
}

// Great functions of several forms: each block makes a virtual of its own number, and looks at one of a block nearby; where that is not there it is mended, from the first place on.
func TestGreatForms(t *testing.T) {
	next := dice(18)
	last := api.MaxBlocks - 1
	cut := func(b int) int { return min(max(b, 0), last) }
	for _, c := range []struct {
		name string
		rule func(b int) api.Term // A is put in behind
	}{
		{"a row", func(b int) api.Term { return jump(cut(b + 1)) }},
		{"one or two on", func(b int) api.Term { return fork(b, cut(b+1), cut(b+2)) }},
		{"there and back", func(b int) api.Term { return fork(b, cut(b+1), cut(b-1)) }},
		{"a tree", func(b int) api.Term { return fork(b, cut(2*b+1), cut(2*b+2)) }},
		{"ifs in ifs", func(b int) api.Term {
			if b < last/2 {
				return fork(b, b+1, last-b)
			}
			return jump(cut(b + 1))
		}},
		{"fors in fors", func(b int) api.Term {
			if b < last/2 {
				return fork(b, b+1, last-b)
			}
			return jump(cut(last - b - 1))
		}},
		{"thrown nearby", func(b int) api.Term { return fork(b, cut(b+1), cut(b+next(9)-4)) }},
	} {
		t.Run(c.name, func(t *testing.T) {
			l := make([]api.Block, api.MaxBlocks)
			for b := range l {
				l[b] = block(c.rule(b))
			}
			l = reachedOf(l)
			for b := range l {
				l[b].Ins = []api.Ins{num(b, 1), again(b+len(l), cut(b-next(4)))}
				l[b].Term.A = b
			}
			u := inMain(l...)
			u.Funcs[0].Size = 2 * len(l)
			m := formOf(&u.Funcs[0])
			for b := range l {
				if i := &l[b].Ins[1]; !m.isThere(i.A, b, 1) {
					if b%50 == 0 || b > len(l)-50 {
						answers(t, u, answer{0, b, 1, api.ErrWrong})
					}
					i.A = b
				}
			}
			answers(t, u, answer{})
		})
	}
}

func TestGreatThrown(t *testing.T) {
	next := dice(19)
	most := 0
	for range 12 {
		u := made(next, 600)
		answers(t, u, answer{})
		for _, f := range u.Funcs {
			most = max(most, len(f.Blocks))
		}
		for range 20 {
			x := copied(u, 0)
			turned(next, &x)
			if isTold(x) {
				answers(t, x, rightAnswer(x))
			}
		}
	}
	if most < 200 {
		t.Errorf("at most %d blocks", most)
	}
}

// Variables, points, scopes and arguments are as many as one likes.
func TestManyOfAll(t *testing.T) {
	const many = 100000
	u := inMain(block(ret(-1), num(0, 1), call(1, 1, make([]int, many)...), mark(many)))
	u.Funcs[1].Vars = slices.Repeat(vars(), many/4)
	u.Funcs[1].Params = many
	u.Points = slices.Repeat(u.Points[:1], many+1)
	u.Points[many].Scope = slices.Repeat([]int{3}, many)
	answers(t, u, answer{})
	u.Points[many].Scope[many-1] = 4
	answers(t, u, answer{e: api.ErrArg})
	u.Points[many].Scope[many-1] = 3
	u.Funcs[0].Blocks[0].Ins[1].Args[many-1] = 1
	answers(t, u, answer{0, 0, 1, api.ErrWrong})
}
