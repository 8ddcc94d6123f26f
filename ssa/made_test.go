package ssa_test

import (
	"slices"

	"theodolite/api"
)

// Plain units that look thrown.

// maker makes the blocks of function number n of a unit, whose functions' Params are known.
type maker struct {
	next    func(int) int
	u       *api.Unit
	number  int
	f       *api.Func
	scalars []int
	here    []int // the virtuals of the block that is made
}

// made is a unit of some functions, each with so many blocks at most.
func made(next func(int) int, blocks int) api.Unit {
	u := api.Unit{}
	for n := range 1 + next(3) {
		u.Funcs = append(u.Funcs, api.Func{Name: "f" + string(rune('0'+n)), Vars: someVarsOf(next), Result: next(2) == 0})
		u.Funcs[n].Params = next(min(3, len(u.Funcs[n].Vars)+1))
	}
	u.Main = next(len(u.Funcs))
	u.Funcs[u.Main].Params = 0
	for n := range u.Funcs {
		makerOf(next, &u, n).blocks(endsThrown(next, 1+next(blocks)), 3)
	}
	return u
}

func makerOf(next func(int) int, u *api.Unit, n int) *maker {
	k := &maker{next: next, u: u, number: n, f: &u.Funcs[n]}
	for v, x := range k.f.Vars {
		if x.Type.Kind == api.TyInt || x.Type.Kind == api.TyBool {
			k.scalars = append(k.scalars, v)
		}
	}
	return k
}

// someVarsOf are up to 8 variables of all sorts, the scalars among the others.
func someVarsOf(next func(int) int) (l []api.Var) {
	for range next(9) {
		l = append(l, vars()[next(2*someVars)%someVars*(next(4)+1)/4])
	}
	return l
}

// blocks makes the blocks, which have ends alone: first what is set in each, a scalar in one of so many, then what is looked at, where it is sure to be set.
func (k *maker) blocks(ends []api.Block, many int) {
	k.f.Blocks = ends
	for b := range k.f.Blocks {
		for _, v := range k.scalars {
			if k.next(many) == 0 || b == 0 && k.next(2) == 0 {
				k.f.Blocks[b].Ins = append(k.f.Blocks[b].Ins, set(v, 0))
			}
		}
	}
	bare := make([][]bool, len(k.f.Vars))
	for _, v := range k.scalars {
		bare[v] = metWithout(k.f, func(b int) bool { return hasSet(k.f, b, v) })
	}
	for b := range k.f.Blocks {
		var sure []int
		for _, v := range k.scalars {
			if !bare[v][b] {
				sure = append(sure, v)
			}
		}
		k.block(&k.f.Blocks[b], sure)
	}
	k.mix()
}

// endsThrown are blocks with ends alone: to each of them a way leads, to the first one none.
func endsThrown(next func(int) int, n int) []api.Block {
	l := make([]api.Block, n)
	goal := func() int { return 1 + next(n-1) }
	for b := range l {
		l[b].Term = ret(-1)
		if n == 1 {
			break
		}
		switch next(6) {
		case 0, 1:
			l[b].Term = jump(goal())
		case 2, 3, 4:
			l[b].Term = fork(0, goal(), goal())
		}
	}
	return reachedOf(l)
}

// reachedOf are those of some blocks to which a way leads, numbered anew.
func reachedOf(l []api.Block) []api.Block {
	met := metWithout(&api.Func{Blocks: l}, func(int) bool { return false })
	number := make([]int, len(l))
	var reached []api.Block
	for b, x := range l {
		if met[b] {
			number[b] = len(reached)
			reached = append(reached, x)
		}
	}
	for b := range reached {
		switch t := &reached[b].Term; t.Kind {
		case api.TermIf:
			t.To, t.Else = number[t.To], number[t.Else]
		case api.TermJump:
			t.To = number[t.To]
		}
	}
	return reached
}

// block makes what stands in a block that has some Sets already, at whose head some scalars are sure to be set.
func (k *maker) block(b *api.Block, sure []int) {
	sets := b.Ins
	b.Ins, k.here = nil, nil
	k.lay(b, k.plain(sure), sure)
	for len(sets) > 0 || k.next(3) > 0 {
		if len(sets) > 0 && k.next(2) == 0 {
			n := k.next(len(sets))
			i := sets[n]
			sets = append(slices.Clone(sets[:n]), sets[n+1:]...)
			k.lay(b, i, sure)
			sure = append(slices.Clone(sure), i.Var)
			continue
		}
		k.lay(b, k.plain(sure), sure)
	}
	if b.Term.Kind == api.TermIf || b.Term.Kind == api.TermRet && k.next(2) == 0 {
		if len(k.here) == 0 || k.next(2) == 0 {
			k.lay(b, input(0), nil)
		}
		b.Term.A = k.one()
	}
}

// one is a virtual of the block.
func (k *maker) one() int { return k.here[k.next(len(k.here))] }

// lay lays an instruction, with what it looks at and what it makes; ahead of it something that makes what may be looked at, if there is nothing.
func (k *maker) lay(b *api.Block, i api.Ins, sure []int) {
	if len(looks(&i)) > 0 && len(k.here) == 0 {
		first := num(0, int64(k.next(5))-2)
		if len(sure) > 0 {
			first = get(0, sure[k.next(len(sure))])
		}
		k.lay(b, first, nil)
	}
	switch n := len(looks(&i)); {
	case i.Op == api.InsCall:
		for n := range i.Args {
			i.Args[n] = k.one()
		}
	case n == 2:
		i.A, i.B = k.one(), k.one()
	case n == 1:
		i.A = k.one()
	}
	if makes(&i) {
		i.Dst = k.f.Size
		k.here = append(k.here, k.f.Size)
		k.f.Size++
	}
	b.Ins = append(b.Ins, i)
}

// plain is an instruction that is no Set, without the virtuals; some scalars are sure to be set.
func (k *maker) plain(sure []int) api.Ins {
	find := func(kind uint8) (int, bool) {
		for n, v := range k.f.Vars {
			if v.Type.Kind == kind {
				return n, true
			}
		}
		return 0, false
	}
	switch k.next(15) {
	case 0:
		return num(0, int64(k.next(7))-3)
	case 1:
		if k.f.Params > 0 {
			return arg(0, int64(k.next(k.f.Params)))
		}
		return input(0)
	case 2, 3, 4:
		if len(sure) > 0 {
			return get(0, sure[k.next(len(sure))])
		}
	case 5:
		if v, is := find(api.TyArray); is {
			return []api.Ins{load(0, v, 0), store(v, 0, 0), zero(v)}[k.next(3)]
		}
	case 6:
		if v, is := find(api.TyStruct); is {
			return []api.Ins{field(0, v, int64(k.next(2))), setField(v, int64(k.next(2)), 0), zero(v)}[k.next(3)]
		}
	case 7:
		f := k.next(len(k.u.Funcs))
		return call(k.next(2)-1, int64(f), make([]int, k.u.Funcs[f].Params)...)
	case 8, 9:
		return k.mark(sure)
	case 10:
		return one([]uint8{api.OpNot, api.OpNeg}[k.next(2)], 0, 0)
	case 11, 12:
		return two(api.OpAdd+uint8(k.next(13)), 0, 0, 0)
	}
	return put(0)
}

// mark is a Mark of a new point, in whose scope some of those stand that are sure to be set, and of what is no scalar.
func (k *maker) mark(sure []int) api.Ins {
	p := api.Point{Func: k.number, Line: k.next(100)}
	for v, x := range k.f.Vars {
		isScalar := x.Type.Kind == api.TyInt || x.Type.Kind == api.TyBool
		if (!isScalar || slices.Contains(sure, v)) && k.next(4) > 0 {
			p.Scope = append(p.Scope, v)
		}
	}
	k.u.Points = append(k.u.Points, p)
	return mark(int64(len(k.u.Points)) - 1)
}

// mix numbers the virtuals anew.
func (k *maker) mix() {
	number := make([]int, k.f.Size)
	for v := range number {
		other := k.next(v + 1)
		number[v] = number[other]
		number[other] = v
	}
	for b := range k.f.Blocks {
		x := &k.f.Blocks[b]
		for at := range x.Ins {
			i := &x.Ins[at]
			switch n := len(looks(i)); {
			case i.Op == api.InsCall:
				for n := range i.Args {
					i.Args[n] = number[i.Args[n]]
				}
			case n == 2:
				i.A, i.B = number[i.A], number[i.B]
			case n == 1:
				i.A = number[i.A]
			}
			if makes(i) {
				i.Dst = number[i.Dst]
			}
		}
		if len(endLooks(x.Term)) > 0 {
			x.Term.A = number[x.Term.A]
		}
	}
}
