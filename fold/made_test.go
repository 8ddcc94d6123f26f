package fold_test

import (
	"slices"

	"theodolite/api"
)

// Sound units that look thrown, in which there is much to be reckoned.

// maker makes the blocks of function number n of a unit, whose functions' Params are known.
type maker struct {
	next   func(int) int
	u      *api.Unit
	number int
	f      *api.Func
	m      form
	size   int
	point  []int64 // which are left
}

// made is a unit of some functions, each with so many blocks at most.
func made(next func(int) int, blocks int) api.Unit {
	u := api.Unit{}
	for n := range 1 + next(3) {
		f := api.Func{Name: "f" + string(rune('0'+n)), Vars: vars(), Params: next(3), Result: next(2) == 0}
		u.Funcs = append(u.Funcs, f)
	}
	u.Main = next(len(u.Funcs))
	u.Funcs[u.Main].Params = 0
	for n := range len(u.Funcs) * somePoints {
		p := api.Point{Func: n % len(u.Funcs), Line: n}
		for v := range someVars {
			if next(2) == 0 {
				p.Scope = append(p.Scope, v)
			}
		}
		u.Points = append(u.Points, p)
	}
	for n := range u.Funcs {
		k := &maker{next: next, u: &u, number: n, f: &u.Funcs[n]}
		for p := n; p < len(u.Points); p += len(u.Funcs) {
			k.point = append(k.point, int64(p))
		}
		k.blocks(1+next(blocks), 6)
	}
	return u
}

// blocks makes the blocks, each with so many instructions at most behind the head: first their ends, then what stands in them, then what that looks at.
func (k *maker) blocks(most, room int) {
	k.f.Blocks = reachedOf(k.ends(most))
	into := waysInto(k.f)
	for b := range k.f.Blocks {
		l := &k.f.Blocks[b].Ins
		if b == 0 {
			*l = append(*l, num(k.virtual(), k.some())) // so that there is something everywhere
		} else {
			for range k.next(3) {
				*l = append(*l, phi(k.virtual(), make([]int, len(into[b]))...))
			}
		}
		for range k.next(room) {
			*l = append(*l, k.ins())
		}
		if k.f.Blocks[b].Term.Kind == api.TermIf && k.next(2) == 0 {
			*l = append(*l, input(k.virtual())) // so that not all is known where it goes on
		}
	}
	k.f.Size = k.size + k.next(2)
	k.mix()
	k.m = formOf(k.f)
	for b := range k.f.Blocks {
		for at := range k.f.Blocks[b].Ins {
			k.fill(b, at)
		}
		k.end(&k.f.Blocks[b], b)
	}
}

func (k *maker) ends(n int) []api.Block {
	var l []api.Block
	for range n {
		end := ret(-1)
		switch k.next(7) {
		case 0, 1:
			end = jump(k.next(n))
		case 2, 3, 4, 5:
			end = fork(0, k.next(n), k.next(n))
		}
		l = append(l, block(end))
	}
	return l
}

// reachedOf are those of some blocks to which a way leads, numbered anew.
func reachedOf(l []api.Block) []api.Block {
	met := metBy(len(l), func(b int) []int { return goals(l[b].Term) })
	number := make([]int, len(l))
	var reached []api.Block
	for b, x := range l {
		if met[b] {
			number[b] = len(reached)
			reached = append(reached, x)
		}
	}
	for b := range reached {
		switch t := &reached[b].Term; t.Kind {
		case api.TermIf:
			t.To, t.Else = number[t.To], number[t.Else]
		case api.TermJump:
			t.To = number[t.To]
		}
	}
	return reached
}

func (k *maker) virtual() int {
	k.size++
	return k.size - 1
}

// some is a number: mostly a small one.
func (k *maker) some() int64 {
	if k.next(9) == 0 {
		return edges()[k.next(len(edges()))]
	}
	return int64(k.next(4)) - 1
}

// ins is an instruction that is no Phi, without what it looks at.
func (k *maker) ins() api.Ins {
	switch k.next(28) {
	case 0, 1, 2, 3, 4, 5:
		return num(k.virtual(), k.some())
	case 6:
		if k.f.Params > 0 {
			return arg(k.virtual(), int64(k.next(k.f.Params)))
		}
		return input(k.virtual())
	case 7:
		return again(k.virtual(), 0)
	case 8:
		return load(k.virtual(), vArray, 0)
	case 9:
		return store(vArray, 0, 0)
	case 10:
		return field(k.virtual(), vStruct, int64(k.next(2)))
	case 11:
		return setField(vStruct, int64(k.next(2)), 0)
	case 12:
		return zero(vArray + k.next(2))
	case 13, 14, 15:
		f := k.next(len(k.u.Funcs))
		i := call(-1, int64(f), make([]int, k.u.Funcs[f].Params)...)
		if k.next(2) == 0 {
			i.Dst = k.virtual()
		}
		return i
	case 16, 17:
		return put(0)
	case 18, 19:
		if len(k.point) > 0 {
			i := mark(k.point[0])
			k.point = k.point[1:]
			return i
		}
		return put(0)
	case 20:
		return bind(k.next(2), k.next(4)-1)
	case 21:
		return one(api.OpNot+uint8(k.next(2)), k.virtual(), 0)
	}
	return two(api.OpAdd+uint8(k.next(13)), k.virtual(), 0, 0)
}

// mix numbers the virtuals anew.
func (k *maker) mix() {
	number := make([]int, k.f.Size)
	for v := range number {
		other := k.next(v + 1)
		number[v] = number[other]
		number[other] = v
	}
	for b := range k.f.Blocks {
		for at := range k.f.Blocks[b].Ins {
			if i := &k.f.Blocks[b].Ins[at]; makes(i) {
				i.Dst = number[i.Dst]
			}
		}
	}
}

// fill chooses what an instruction looks at.
func (k *maker) fill(b, at int) {
	i := &k.f.Blocks[b].Ins[at]
	switch i.Op {
	case api.InsPhi:
		for n, from := range k.m.into[b] {
			i.Args[n] = k.oneThere(from, len(k.f.Blocks[from].Ins))
		}
	case api.InsCall:
		for n := range i.Args {
			i.Args[n] = k.oneThere(b, at)
		}
	case api.InsStore:
		i.A, i.B = k.oneThere(b, at), k.oneThere(b, at)
	default:
		n := len(looks(i))
		if n > 0 {
			i.A = k.oneThere(b, at)
		}
		if n > 1 {
			i.B = k.oneThere(b, at)
		}
	}
}

// end chooses what a block's end looks at: a TermIf at an input that stands right ahead of it.
func (k *maker) end(x *api.Block, b int) {
	if x.Term.Kind == api.TermJump || x.Term.Kind == api.TermRet && k.next(2) == 0 {
		return
	}
	x.Term.A = k.oneThere(b, len(x.Ins))
	if last := len(x.Ins) - 1; last >= 0 && x.Ins[last].Op == api.InsInput {
		x.Term.A = x.Ins[last].Dst
	}
}

// oneThere is a virtual that is there at a place.
func (k *maker) oneThere(b, at int) int {
	var l []int
	for v := range k.f.Size {
		if k.m.isThere(v, b, at) {
			l = append(l, v)
		}
	}
	return l[k.next(len(l))]
}

// form is of a function the ways into each block; which blocks stand over which (over[a][b]); where each virtual is made.
type form struct {
	into [][]int
	over [][]bool
	made map[int][2]int
}

// formOf is of a function to all of whose blocks a way leads.
func formOf(f *api.Func) form {
	m := form{into: waysInto(f), made: map[int][2]int{}}
	for a := range f.Blocks {
		past := metBy(len(f.Blocks), func(b int) []int {
			return slices.DeleteFunc(slices.Clone(goals(f.Blocks[b].Term)), func(to int) bool { return to == a || b == a })
		})
		row := make([]bool, len(f.Blocks))
		for b := range row {
			row[b] = a == 0 || a == b || !past[b]
		}
		m.over = append(m.over, row)
	}
	for b := range f.Blocks {
		for at := range f.Blocks[b].Ins {
			if i := &f.Blocks[b].Ins[at]; makes(i) {
				m.made[i.Dst] = [2]int{b, at}
			}
		}
	}
	return m
}

// isThere tells whether a virtual is there at a place.
func (m form) isThere(v, b, at int) bool {
	made, is := m.made[v]
	return is && (made[0] == b && made[1] < at || made[0] != b && m.over[made[0]][b])
}
