package sound_test

import (
	"slices"

	"theodolite/api"
)

// The chapters' words, taken as they stand.

// rightAnswer is what is to be answered of a unit.
func rightAnswer(u api.Unit) answer {
	if !mayBe(u) {
		return answer{e: api.ErrArg}
	}
	for n := range u.Funcs {
		if b, i, is := firstWrong(&u.Funcs[n]); is {
			return answer{n, b, i, api.ErrWrong}
		}
	}
	return answer{}
}

// Units that may be (14)

func in(n, many int) bool { return 0 <= n && n < many }

func inNum(n int64, many int) bool { return 0 <= n && n < int64(many) }

func mayBe(u api.Unit) bool {
	if !in(u.Main, len(u.Funcs)) || len(u.Funcs) > api.MaxFuncs || u.Funcs[u.Main].Params != 0 {
		return false
	}
	for _, p := range u.Points {
		if !in(p.Func, len(u.Funcs)) {
			return false
		}
		for _, v := range p.Scope {
			if !in(v, len(u.Funcs[p.Func].Vars)) {
				return false
			}
		}
	}
	for n := range u.Funcs {
		if !functionMayBe(u, n) {
			return false
		}
	}
	return true
}

func functionMayBe(u api.Unit, n int) bool {
	f := &u.Funcs[n]
	for _, v := range f.Vars {
		if v.Words < 1 || v.Words > api.MaxArray {
			return false
		}
	}
	if f.Params < 0 || f.Params > len(f.Vars) || f.Size > api.MaxIns || !in(len(f.Blocks)-1, api.MaxBlocks) {
		return false
	}
	ins := 0
	for _, b := range f.Blocks {
		ins += len(b.Ins)
		for _, to := range goals(b.Term) {
			if !in(to, len(f.Blocks)) {
				return false
			}
		}
		for _, v := range endLooks(b.Term) {
			if !in(v, f.Size) {
				return false
			}
		}
	}
	if ins > api.MaxIns {
		return false
	}
	into := waysInto(f)
	for b := range f.Blocks {
		for i := range f.Blocks[b].Ins {
			if !insMayBe(u, n, b, i, len(into[b])) {
				return false
			}
		}
	}
	return true
}

// insMayBe is of an instruction of a block with so many ways in.
func insMayBe(u api.Unit, n, b, at, ways int) bool {
	f := &u.Funcs[n]
	i := &f.Blocks[b].Ins[at]
	for _, v := range looks(i) {
		if !in(v, f.Size) {
			return false
		}
	}
	if makes(i) && !in(i.Dst, f.Size) {
		return false
	}
	var v api.Var
	if in(i.Var, len(f.Vars)) {
		v = f.Vars[i.Var]
	}
	switch i.Op {
	case api.InsGet, api.InsSet, api.InsBind:
		return (v.Type.Kind == api.TyInt || v.Type.Kind == api.TyBool) && v.Words == 1
	case api.InsLoad, api.InsStore:
		return v.Type.Kind == api.TyArray
	case api.InsField, api.InsSetF:
		return v.Type.Kind == api.TyStruct && inNum(i.Num, v.Words)
	case api.InsZero:
		return v.Type.Kind == api.TyArray || v.Type.Kind == api.TyStruct
	case api.InsCall:
		return inNum(i.Num, len(u.Funcs)) && len(i.Args) == u.Funcs[i.Num].Params
	case api.InsMark:
		return inNum(i.Num, len(u.Points)) && u.Points[i.Num].Func == n
	case api.InsPhi:
		ahead := f.Blocks[b].Ins[:at]
		return b > 0 && len(i.Args) == ways && !slices.ContainsFunc(ahead, func(x api.Ins) bool { return x.Op != api.InsPhi })
	}
	return true
}

// makes tells whether an instruction makes a virtual.
func makes(i *api.Ins) bool {
	switch i.Op {
	case api.InsConst, api.InsArg, api.InsGet, api.InsCopy, api.InsLoad, api.InsField, api.InsInput, api.InsPhi:
		return true
	case api.InsCall:
		return i.Dst != -1
	}
	return i.Op <= api.OpNeg
}

// looks are the virtuals at which an instruction looks.
func looks(i *api.Ins) []int {
	switch i.Op {
	case api.OpNot, api.OpNeg, api.InsSet, api.InsCopy, api.InsLoad, api.InsSetF, api.InsPrint:
		return []int{i.A}
	case api.InsStore:
		return []int{i.A, i.B}
	case api.InsCall, api.InsPhi:
		return i.Args
	case api.InsBind:
		if i.A == -1 {
			return nil
		}
		return []int{i.A}
	}
	if i.Op <= api.OpOr {
		return []int{i.A, i.B}
	}
	return nil
}

func endLooks(t api.Term) []int {
	if t.Kind == api.TermIf || t.Kind == api.TermRet && t.A != -1 {
		return []int{t.A}
	}
	return nil
}

// goals are the blocks to which an end goes.
func goals(t api.Term) []int {
	switch t.Kind {
	case api.TermJump:
		return []int{t.To}
	case api.TermIf:
		return []int{t.To, t.Else}
	}
	return nil
}

func waysInto(f *api.Func) [][]int {
	into := make([][]int, len(f.Blocks))
	for b := range f.Blocks {
		for _, to := range goals(f.Blocks[b].Term) {
			into[to] = append(into[to], b)
		}
	}
	return into
}

// Sound ones (16)

// form is of a function the ways into each block; which blocks a way leads to; which of them stand over which (over[a][b]); where each virtual is made.
type form struct {
	f       *api.Func
	into    [][]int
	reached []bool
	over    [][]bool
	made    map[int][2]int
}

func formOf(f *api.Func) form {
	m := form{f: f, into: waysInto(f), reached: metWithout(f, -1), made: map[int][2]int{}}
	for a := range f.Blocks {
		met := metWithout(f, a)
		row := make([]bool, len(f.Blocks))
		for b := range row {
			row[b] = m.reached[a] && m.reached[b] && !met[b]
		}
		m.over = append(m.over, row)
	}
	for b := range f.Blocks {
		for at := range f.Blocks[b].Ins {
			i := &f.Blocks[b].Ins[at]
			if _, is := m.made[i.Dst]; makes(i) && !is {
				m.made[i.Dst] = [2]int{b, at}
			}
		}
	}
	return m
}

// metWithout are the blocks to which a way goes that does not meet one of them (-1: any way).
func metWithout(f *api.Func, gone int) []bool {
	met := make([]bool, len(f.Blocks))
	row := []int{0}
	for len(row) > 0 {
		b := row[0]
		row = row[1:]
		if b == gone || met[b] {
			continue
		}
		met[b] = true
		row = append(row, goals(f.Blocks[b].Term)...)
	}
	return met
}

// isThere tells whether a virtual is there at a place.
func (m form) isThere(v, b, at int) bool {
	made, is := m.made[v]
	if !is {
		return false
	}
	return made[0] == b && made[1] < at || made[0] != b && m.over[made[0]][b]
}

// firstWrong is a function's first place that is wrong.
func firstWrong(f *api.Func) (b, at int, is bool) {
	m := formOf(f)
	marks := map[int64]bool{}
	for b := range f.Blocks {
		l := f.Blocks[b].Ins
		if !m.reached[b] {
			return b, 0, true
		}
		for at := range l {
			i := &l[at]
			if m.isWrong(i, b, at) || i.Op == api.InsMark && marks[i.Num] {
				return b, at, true
			}
			if i.Op == api.InsMark {
				marks[i.Num] = true
			}
		}
		for _, v := range endLooks(f.Blocks[b].Term) {
			if !m.isThere(v, b, len(l)) {
				return b, len(l), true
			}
		}
	}
	return 0, 0, false
}

// isWrong: an instruction is a Get or Set, looks at what is not there, or makes what was made.
func (m form) isWrong(i *api.Ins, b, at int) bool {
	if i.Op == api.InsGet || i.Op == api.InsSet || makes(i) && m.made[i.Dst] != [2]int{b, at} {
		return true
	}
	for k, v := range looks(i) {
		block, behind := b, at
		if i.Op == api.InsPhi {
			block = m.into[b][k]
			behind = len(m.f.Blocks[block].Ins)
		}
		if !m.isThere(v, block, behind) {
			return true
		}
	}
	return false
}
