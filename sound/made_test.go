package sound_test

import (
	"theodolite/api"
)

// Sound units that look thrown.

// maker makes the blocks of function number n of a unit, whose functions' Params are known.
type maker struct {
	next   func(int) int
	u      *api.Unit
	number int
	f      *api.Func
	m      form
	size   int
	point  []int64 // which are left
}

// made is a unit of some functions, each with so many blocks at most.
func made(next func(int) int, blocks int) api.Unit {
	u := api.Unit{}
	for n := range 1 + next(3) {
		f := api.Func{Name: "f" + string(rune('0'+n)), Vars: vars(), Params: next(3), Result: next(2) == 0}
		u.Funcs = append(u.Funcs, f)
	}
	u.Main = next(len(u.Funcs))
	u.Funcs[u.Main].Params = 0
	for n := range len(u.Funcs) * somePoints {
		p := api.Point{Func: n % len(u.Funcs), Line: n}
		for v := range someVars {
			if next(2) == 0 {
				p.Scope = append(p.Scope, v)
			}
		}
		u.Points = append(u.Points, p)
	}
	for n := range u.Funcs {
		k := &maker{next: next, u: &u, number: n, f: &u.Funcs[n]}
		for p := n; p < len(u.Points); p += len(u.Funcs) {
			k.point = append(k.point, int64(p))
		}
		k.blocks(1 + next(blocks))
	}
	return u
}

// blocks makes the blocks: first their ends, then what stands in them, then what that looks at.
func (k *maker) blocks(most int) {
	k.f.Blocks = reachedOf(k.ends(most))
	into := waysInto(k.f)
	for b := range k.f.Blocks {
		l := &k.f.Blocks[b].Ins
		if b == 0 {
			*l = append(*l, num(k.virtual(), int64(k.next(5))-2)) // so that there is something everywhere
		} else {
			for range k.next(3) {
				*l = append(*l, phi(k.virtual(), make([]int, len(into[b]))...))
			}
		}
		for range k.next(4) {
			*l = append(*l, k.ins())
		}
	}
	k.f.Size = k.size + k.next(2)
	k.mix()
	k.m = formOf(k.f)
	for b := range k.f.Blocks {
		for at := range k.f.Blocks[b].Ins {
			k.fill(b, at)
		}
		if t := &k.f.Blocks[b].Term; t.Kind == api.TermIf || t.Kind == api.TermRet && k.next(2) == 0 {
			t.A = k.oneThere(b, len(k.f.Blocks[b].Ins))
		}
	}
}

func (k *maker) ends(n int) []api.Block {
	var l []api.Block
	for range n {
		end := ret(-1)
		switch k.next(6) {
		case 0, 1:
			end = jump(k.next(n))
		case 2, 3, 4:
			end = fork(0, k.next(n), k.next(n))
		}
		l = append(l, block(end))
	}
	return l
}

// reachedOf are those of some blocks to which a way leads, numbered anew.
func reachedOf(l []api.Block) []api.Block {
	met := metWithout(&api.Func{Blocks: l}, -1)
	number := make([]int, len(l))
	var reached []api.Block
	for b, x := range l {
		if met[b] {
			number[b] = len(reached)
			reached = append(reached, x)
		}
	}
	for b := range reached {
		switch t := &reached[b].Term; t.Kind {
		case api.TermIf:
			t.To, t.Else = number[t.To], number[t.Else]
		case api.TermJump:
			t.To = number[t.To]
		}
	}
	return reached
}

func (k *maker) virtual() int {
	k.size++
	return k.size - 1
}

// ins is an instruction that is no Phi, without what it looks at.
func (k *maker) ins() api.Ins {
	switch k.next(16) {
	case 0:
		return num(k.virtual(), int64(k.next(7))-3)
	case 1:
		if k.f.Params > 0 {
			return arg(k.virtual(), int64(k.next(k.f.Params)))
		}
		return input(k.virtual())
	case 2:
		return again(k.virtual(), 0)
	case 3:
		return load(k.virtual(), vArray, 0)
	case 4:
		return store(vArray, 0, 0)
	case 5:
		return field(k.virtual(), vStruct, int64(k.next(2)))
	case 6:
		return setField(vStruct, int64(k.next(2)), 0)
	case 7:
		return zero(vArray + k.next(2))
	case 8:
		f := k.next(len(k.u.Funcs))
		i := call(-1, int64(f), make([]int, k.u.Funcs[f].Params)...)
		if k.next(2) == 0 {
			i.Dst = k.virtual()
		}
		return i
	case 9:
		return put(0)
	case 10:
		if len(k.point) > 0 {
			i := mark(k.point[0])
			k.point = k.point[1:]
			return i
		}
		return put(0)
	case 11:
		return bind(k.next(2), k.next(4)-1)
	case 12:
		return one(api.OpNot+uint8(k.next(2)), k.virtual(), 0)
	}
	return two(api.OpAdd+uint8(k.next(13)), k.virtual(), 0, 0)
}

// mix numbers the virtuals anew.
func (k *maker) mix() {
	number := make([]int, k.f.Size)
	for v := range number {
		other := k.next(v + 1)
		number[v] = number[other]
		number[other] = v
	}
	for b := range k.f.Blocks {
		for at := range k.f.Blocks[b].Ins {
			if i := &k.f.Blocks[b].Ins[at]; makes(i) {
				i.Dst = number[i.Dst]
			}
		}
	}
}

// fill chooses what an instruction looks at.
func (k *maker) fill(b, at int) {
	i := &k.f.Blocks[b].Ins[at]
	switch i.Op {
	case api.InsPhi:
		for n, from := range k.m.into[b] {
			i.Args[n] = k.oneThere(from, len(k.f.Blocks[from].Ins))
		}
	case api.InsCall:
		for n := range i.Args {
			i.Args[n] = k.oneThere(b, at)
		}
	case api.InsStore:
		i.A, i.B = k.oneThere(b, at), k.oneThere(b, at)
	default:
		n := len(looks(i))
		if n > 0 {
			i.A = k.oneThere(b, at)
		}
		if n > 1 {
			i.B = k.oneThere(b, at)
		}
	}
}

// oneThere is a virtual that is there at a place.
func (k *maker) oneThere(b, at int) int {
	var l []int
	for v := range k.f.Size {
		if k.m.isThere(v, b, at) {
			l = append(l, v)
		}
	}
	return l[k.next(len(l))]
}

// Faults

// turned turns one thing or another in a unit that is nobody else's.
func turned(next func(int) int, u *api.Unit) {
	n := next(len(u.Funcs))
	f := &u.Funcs[n]
	b := &f.Blocks[next(len(f.Blocks))]
	number := func() int { return next(f.Size+4) - 2 }
	if len(b.Ins) == 0 || next(6) == 0 {
		turnedEnd(next, f, b)
		return
	}
	at := next(len(b.Ins))
	i := &b.Ins[at]
	switch next(16) {
	case 0, 1:
		i.Dst = number()
	case 2, 3:
		i.A = number()
	case 4, 5:
		i.B = number()
	case 6, 7:
		if len(i.Args) > 0 {
			i.Args[next(len(i.Args))] = number()
		}
	case 8:
		if next(2) == 0 {
			i.Args = append(i.Args, number())
		} else if len(i.Args) > 0 {
			i.Args = i.Args[:len(i.Args)-1]
		}
	case 9:
		i.Num = int64(next(somePoints*3+2)) - 1
	case 10:
		i.Var = next(someVars+2) - 1
	case 11:
		i.Op = [...]uint8{api.InsGet, api.InsSet, api.InsMark, api.InsPhi, api.InsPrint, api.InsCopy, api.InsBind, api.InsZero}[next(8)]
	case 12, 13:
		other := next(len(b.Ins))
		b.Ins[at], b.Ins[other] = b.Ins[other], b.Ins[at]
	case 14:
		b.Ins = append(b.Ins[:at], b.Ins[at+1:]...)
	default:
		to := &f.Blocks[next(len(f.Blocks))]
		to.Ins = append(to.Ins, *i)
	}
}

func turnedEnd(next func(int) int, f *api.Func, b *api.Block) {
	goal := func() int { return next(len(f.Blocks)+2) - 1 }
	switch next(6) {
	case 0:
		b.Term.A = next(f.Size+4) - 2
	case 1:
		b.Term.To = goal()
	case 2:
		b.Term.Else = goal()
	case 3:
		b.Term = jump(goal())
	case 4:
		b.Term = ret(-1)
	default:
		f.Blocks = append(f.Blocks, block(jump(next(len(f.Blocks)+1))))
	}
}

// isTold tells whether the chapters say of each Arg of a unit what it is: one of the function's own.
func isTold(u api.Unit) bool {
	for _, f := range u.Funcs {
		for _, b := range f.Blocks {
			for _, i := range b.Ins {
				if i.Op == api.InsArg && !inNum(i.Num, f.Params) {
					return false
				}
			}
		}
	}
	return true
}
