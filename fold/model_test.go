package fold_test

import (
	"fmt"
	"slices"

	"theodolite/api"
	"theodolite/sound"
)

// The chapter's words, taken as they stand.

// makes tells whether an instruction makes a virtual.
func makes(i *api.Ins) bool {
	switch i.Op {
	case api.InsConst, api.InsArg, api.InsCopy, api.InsLoad, api.InsField, api.InsInput, api.InsPhi:
		return true
	case api.InsCall:
		return i.Dst != -1
	}
	return isOperation(i)
}

func isOperation(i *api.Ins) bool { return i.Op >= api.OpAdd && i.Op <= api.OpNeg }

// looks are the virtuals at which an instruction looks.
func looks(i *api.Ins) []int {
	switch i.Op {
	case api.OpNot, api.OpNeg, api.InsCopy, api.InsLoad, api.InsSetF, api.InsPrint:
		return []int{i.A}
	case api.InsStore:
		return []int{i.A, i.B}
	case api.InsCall, api.InsPhi:
		return i.Args
	case api.InsBind:
		if i.A == -1 {
			return nil
		}
		return []int{i.A}
	}
	if isOperation(i) {
		return []int{i.A, i.B}
	}
	return nil
}

// goals are the blocks to which an end goes.
func goals(t api.Term) []int {
	switch t.Kind {
	case api.TermJump:
		return []int{t.To}
	case api.TermIf:
		return []int{t.To, t.Else}
	}
	return nil
}

func waysInto(f *api.Func) [][]int {
	into := make([][]int, len(f.Blocks))
	for b := range f.Blocks {
		for _, to := range goals(f.Blocks[b].Term) {
			into[to] = append(into[to], b)
		}
	}
	return into
}

// metBy are the blocks to which a way goes, if it goes on from each as is told.
func metBy(blocks int, on func(b int) []int) []bool {
	met := make([]bool, blocks)
	for row := []int{0}; len(row) > 0; row = row[1:] {
		if b := row[0]; !met[b] {
			met[b] = true
			row = append(row, on(b)...)
		}
	}
	return met
}

// constsOf is of each virtual that a Const makes what that is.
func constsOf(f *api.Func) map[int]int64 {
	m := map[int]int64{}
	for _, b := range f.Blocks {
		for _, i := range b.Ins {
			if i.Op == api.InsConst {
				m[i.Dst] = i.Num
			}
		}
	}
	return m
}

// canGo tells whether an operation is one that may not stand.
func canGo(i *api.Ins, consts map[int]int64) bool {
	for _, v := range looks(i) {
		if _, is := consts[v]; !is {
			return false
		}
	}
	return isOperation(i) && !((i.Op == api.OpDiv || i.Op == api.OpRem) && consts[i.B] == 0)
}

// What is promised

// wrong: what is wrong with a unit that was made of a sound one, in words; nothing, if it is as P18.1 (but for its trace) and P18.2 say.
func wrong(u, got api.Unit) string {
	if f, b, i, e := sound.Check(got); e != api.OK {
		return fmt.Sprintf("function %d, block %d, instruction %d: error %d", f, b, i, e)
	}
	if len(got.Funcs) != len(u.Funcs) || got.Main != u.Main || !same(got.Points, u.Points) {
		return "its functions, Main or Points"
	}
	for n := range u.Funcs {
		f, g := &u.Funcs[n], &got.Funcs[n]
		if f.Name != g.Name || f.Params != g.Params || f.Result != g.Result || !same(f.Vars, g.Vars) {
			return fmt.Sprintf("function %d: its name, Params, Result or Vars", n)
		}
		consts := constsOf(g)
		for _, s := range []string{standsWrong(g, consts), staysWrong(f, g, consts)} {
			if s != "" {
				return fmt.Sprintf("function %d: %s", n, s)
			}
		}
	}
	return ""
}

// standsWrong: there is something that may not stand.
func standsWrong(g *api.Func, consts map[int]int64) string {
	for b, x := range g.Blocks {
		for at := range x.Ins {
			if canGo(&x.Ins[at], consts) {
				return fmt.Sprintf("block %d, instruction %d", b, at)
			}
		}
		if _, is := consts[x.Term.A]; is && x.Term.Kind == api.TermIf {
			return fmt.Sprintf("the end of block %d", b)
		}
	}
	return ""
}

// staysWrong: of the blocks to which a way goes one is not there, or what does something in one, or a Bind, is not as it was.
func staysWrong(f, g *api.Func, consts map[int]int64) string {
	met := metBy(len(f.Blocks), func(b int) []int {
		t := f.Blocks[b].Term
		if n, is := consts[t.A]; is && t.Kind == api.TermIf {
			return goals(t)[sideOf(n):][:1]
		}
		return goals(t)
	})
	so := 0
	for b := range f.Blocks {
		if !met[b] {
			continue
		}
		if so == len(g.Blocks) {
			return fmt.Sprintf("block %d is not there", b)
		}
		if !same(doing(f.Blocks[b].Ins), doing(g.Blocks[so].Ins)) {
			return fmt.Sprintf("block %d: what does something", b)
		}
		so++
	}
	if so < len(g.Blocks) {
		return fmt.Sprintf("%d blocks, want %d", len(g.Blocks), so)
	}
	return ""
}

// sideOf is which of a TermIf's ways is taken.
func sideOf(n int64) int {
	if n == 0 {
		return 1
	}
	return 0
}

// doing are those of some instructions that do something, and Binds.
func doing(l []api.Ins) (some []api.Ins) {
	for _, i := range l {
		switch i.Op {
		case api.InsMark, api.InsCall, api.InsInput, api.InsPrint, api.InsLoad, api.InsStore, api.InsField, api.InsSetF, api.InsZero, api.InsBind:
			some = append(some, i)
		}
	}
	return some
}

// Step by step

// stepped is a unit in which one thing that may not stand after the other was turned, and nothing else.
func stepped(u api.Unit) api.Unit {
	u = copied(u, 0)
	for n := range u.Funcs {
		f := &u.Funcs[n]
		for stepOfIns(f) || stepOfEnd(f) || stepOfBlock(f) {
		}
	}
	return u
}

func stepOfIns(f *api.Func) bool {
	consts := constsOf(f)
	for b := range f.Blocks {
		for at := range f.Blocks[b].Ins {
			i := &f.Blocks[b].Ins[at]
			if !canGo(i, consts) {
				continue
			}
			switch x := consts[i.A]; i.Op {
			case api.OpNot:
				*i = num(i.Dst, 1-x)
			case api.OpNeg:
				*i = num(i.Dst, -x)
			default:
				*i = num(i.Dst, (&walk{}).reckon(i.Op, x, consts[i.B]))
			}
			return true
		}
	}
	return false
}

func stepOfEnd(f *api.Func) bool {
	consts := constsOf(f)
	for b := range f.Blocks {
		t := &f.Blocks[b].Term
		n, is := consts[t.A]
		if !is || t.Kind != api.TermIf {
			continue
		}
		to := goals(*t)[sideOf(n)]
		noWay(f, b, 1-sideOf(n))
		*t = jump(to)
		return true
	}
	return false
}

// noWay takes of the Phis what came of a way, which is the first or the second one (0, 1) of a block's end.
func noWay(f *api.Func, b, side int) {
	to := goals(f.Blocks[b].Term)[side]
	place := slices.Index(waysInto(f)[to], b)
	if side == 1 && f.Blocks[b].Term.To == to {
		place++
	}
	l := f.Blocks[to].Ins
	for n := range l {
		if l[n].Op == api.InsPhi {
			l[n].Args = slices.Delete(l[n].Args, place, place+1)
		}
	}
}

// stepOfBlock ends a block to which no way leads; if it has ended, it goes, when no block leads to it.
func stepOfBlock(f *api.Func) bool {
	met := metBy(len(f.Blocks), func(b int) []int { return goals(f.Blocks[b].Term) })
	for b := range f.Blocks {
		if t := f.Blocks[b].Term; !met[b] && t.Kind != api.TermRet {
			for side := len(goals(t)) - 1; side >= 0; side-- {
				noWay(f, b, side)
			}
			f.Blocks[b].Term = ret(-1)
			return true
		}
	}
	gone := slices.Index(met, false)
	if gone < 0 {
		return false
	}
	f.Blocks = slices.Delete(f.Blocks, gone, gone+1)
	for b := range f.Blocks {
		t := &f.Blocks[b].Term
		if t.Kind != api.TermRet && t.To > gone {
			t.To--
		}
		if t.Kind == api.TermIf && t.Else > gone {
			t.Else--
		}
	}
	return true
}
