package build_test

import (
	"fmt"
	"slices"

	"theodolite/api"
)

// What is wrong with a unit that was made of a tree, in words; nothing, if it is as P14.1 (but for its trace), P14.2 and P14.3 say.

func wrong(x api.Tree, u api.Unit) string {
	for _, s := range []string{notOfTree(x, u), mayNotBe(u)} {
		if s != "" {
			return s
		}
	}
	for n := range u.Funcs {
		f, b := &u.Funcs[n], &x.Bodies[n]
		for _, s := range []string{virtualsWrong(f), marksWrong(f, b), waysWrong(f), greater(f, b)} {
			if s != "" {
				return fmt.Sprintf("function %d: %s", n, s)
			}
		}
	}
	return ""
}

// notOfTree: what of a unit is not the tree's, though it should be.
func notOfTree(x api.Tree, u api.Unit) string {
	if len(u.Funcs) != len(x.Bodies) || u.Main != x.Main || !same(u.Points, x.Points) {
		return "its functions, Main or Points"
	}
	for n, f := range u.Funcs {
		b := x.Bodies[n]
		if f.Name != b.Name || f.Params != b.Params || f.Result != b.Result || !same(f.Vars, b.Vars) {
			return fmt.Sprintf("function %d: its name, Params, Result or Vars", n)
		}
	}
	return ""
}

// Units that may be

func in(n, size int) bool { return n >= 0 && n < size }

func mayNotBe(u api.Unit) string {
	if !in(u.Main, len(u.Funcs)) || len(u.Funcs) > api.MaxFuncs || u.Funcs[u.Main].Params != 0 {
		return "Main, or how many functions"
	}
	for n, p := range u.Points {
		if !in(p.Func, len(u.Funcs)) || slices.ContainsFunc(p.Scope, func(v int) bool { return !in(v, len(u.Funcs[p.Func].Vars)) }) {
			return fmt.Sprintf("point %d", n)
		}
	}
	for n := range u.Funcs {
		if s := functionMayNotBe(u, n); s != "" {
			return fmt.Sprintf("function %d: %s", n, s)
		}
	}
	return ""
}

func functionMayNotBe(u api.Unit, n int) string {
	f := &u.Funcs[n]
	if f.Params < 0 || f.Params > len(f.Vars) || slices.ContainsFunc(f.Vars, func(v api.Var) bool { return v.Words < 1 || v.Words > api.MaxArray }) {
		return "Params or Words"
	}
	if len(f.Blocks) < 1 || len(f.Blocks) > api.MaxBlocks || instructions(f) > api.MaxIns || f.Size < 0 || f.Size > api.MaxIns {
		return fmt.Sprintf("%d blocks, %d instructions, Size %d", len(f.Blocks), instructions(f), f.Size)
	}
	for k, b := range f.Blocks {
		for at := range b.Ins {
			if i := &b.Ins[at]; !insMayBe(u, n, i) {
				return fmt.Sprintf("block %d, instruction %d: %+v", k, at, *i)
			}
		}
		if !termMayBe(f, b.Term) {
			return fmt.Sprintf("block %d, its end: %+v", k, b.Term)
		}
	}
	return ""
}

func instructions(f *api.Func) (n int) {
	for _, b := range f.Blocks {
		n += len(b.Ins)
	}
	return n
}

func termMayBe(f *api.Func, t api.Term) bool {
	for _, to := range goals(t) {
		if !in(to, len(f.Blocks)) {
			return false
		}
	}
	switch t.Kind {
	case api.TermJump:
		return true
	case api.TermIf:
		return in(t.A, f.Size)
	case api.TermRet:
		return t.A == -1 || in(t.A, f.Size)
	}
	return false
}

func insMayBe(u api.Unit, n int, i *api.Ins) bool {
	f := &u.Funcs[n]
	if makes(i) && !in(i.Dst, f.Size) && !(i.Op == api.InsCall && i.Dst == -1) {
		return false
	}
	for _, v := range looks(i) {
		if !in(v, f.Size) {
			return false
		}
	}
	switch i.Op {
	case api.InsGet, api.InsSet:
		return in(i.Var, len(f.Vars)) && isScalar(f.Vars[i.Var]) && f.Vars[i.Var].Words == 1
	case api.InsLoad, api.InsStore:
		return in(i.Var, len(f.Vars)) && f.Vars[i.Var].Type.Kind == api.TyArray
	case api.InsField, api.InsSetF:
		return in(i.Var, len(f.Vars)) && f.Vars[i.Var].Type.Kind == api.TyStruct && i.Num >= 0 && i.Num < int64(f.Vars[i.Var].Words)
	case api.InsZero:
		return in(i.Var, len(f.Vars)) && !isScalar(f.Vars[i.Var])
	case api.InsCall:
		return i.Num >= 0 && i.Num < int64(len(u.Funcs)) && len(i.Args) == u.Funcs[i.Num].Params
	case api.InsMark:
		return i.Num >= 0 && i.Num < int64(len(u.Points)) && u.Points[i.Num].Func == n
	case api.InsArg:
		return i.Num >= 0 && i.Num < int64(f.Params)
	case api.InsConst, api.InsInput, api.InsPrint:
		return true
	}
	return i.Op >= api.OpAdd && i.Op <= api.OpNeg // and no Bind, Phi and Copy (P14.2)
}

// makes tells whether an instruction makes a virtual, which is none if Dst is -1.
func makes(i *api.Ins) bool {
	switch i.Op {
	case api.InsConst, api.InsArg, api.InsGet, api.InsLoad, api.InsField, api.InsCall, api.InsInput:
		return true
	}
	return i.Op <= api.OpNeg
}

// looks are the virtuals at which an instruction looks.
func looks(i *api.Ins) []int {
	switch i.Op {
	case api.InsStore:
		return []int{i.A, i.B}
	case api.InsSet, api.InsLoad, api.InsSetF, api.InsPrint, api.OpNot, api.OpNeg:
		return []int{i.A}
	case api.InsCall:
		return i.Args
	}
	if i.Op >= api.OpAdd && i.Op <= api.OpOr {
		return []int{i.A, i.B}
	}
	return nil
}

// P14.2

// virtualsWrong: one is made twice, or looked at where it was not made ahead in the same block.
func virtualsWrong(f *api.Func) string {
	madeIn := slices.Repeat([]int{-1}, f.Size)
	for k, b := range f.Blocks {
		for at := range b.Ins {
			i := &b.Ins[at]
			for _, v := range looks(i) {
				if madeIn[v] != k {
					return fmt.Sprintf("block %d, instruction %d looks at %d", k, at, v)
				}
			}
			if makes(i) && i.Dst >= 0 {
				if madeIn[i.Dst] >= 0 {
					return fmt.Sprintf("block %d, instruction %d makes %d again", k, at, i.Dst)
				}
				madeIn[i.Dst] = k
			}
		}
		if t := b.Term; (t.Kind == api.TermIf || t.Kind == api.TermRet && t.A >= 0) && madeIn[t.A] != k {
			return fmt.Sprintf("block %d, its end looks at %d", k, t.A)
		}
	}
	return ""
}

// marksWrong: they are not just those of the points to which a way leads, one of each.
func marksWrong(f *api.Func, b *api.Body) string {
	var marks []int
	for _, b := range f.Blocks {
		for _, i := range b.Ins {
			if i.Op == api.InsMark {
				marks = append(marks, int(i.Num))
			}
		}
	}
	slices.Sort(marks)
	var want []int
	pointsOf(b.Acts, &want)
	slices.Sort(want)
	if !slices.Equal(marks, want) {
		return fmt.Sprintf("Marks of %d, want %d", marks, want)
	}
	return ""
}

// pointsOf adds the points of a list to which a way leads, if one leads to it, and tells whether one leads behind it.
func pointsOf(l []api.Act, points *[]int) bool {
	for i := range l {
		a := &l[i]
		*points = append(*points, a.Point)
		switch a.Kind {
		case api.StReturn:
			return false
		case api.StIf:
			one := pointsOf(a.Body, points)
			other := pointsOf(a.Else, points)
			if !one && !other {
				return false
			}
		case api.StFor:
			pointsOf(a.Body, points)
		}
	}
	return true
}

// P14.3

// waysWrong: a block is not met, or the first one is.
func waysWrong(f *api.Func) string {
	met := make([]bool, len(f.Blocks))
	met[0] = true
	for open := []int{0}; len(open) > 0; {
		k := open[0]
		open = open[1:]
		for _, to := range goals(f.Blocks[k].Term) {
			if to == 0 {
				return fmt.Sprintf("block %d leads to the first one", k)
			}
			if !met[to] {
				met[to] = true
				open = append(open, to)
			}
		}
	}
	if k := slices.Index(met, false); k >= 0 {
		return fmt.Sprintf("no way leads to block %d", k)
	}
	return ""
}

// greater: there are more blocks or instructions than there may be of such statements.
func greater(f *api.Func, b *api.Body) string {
	statements, expressions := counts(b.Acts)
	blocks, ins := 4*statements+4, 3*expressions+4*statements+2*b.Params
	if len(f.Blocks) > blocks || instructions(f) > ins {
		return fmt.Sprintf("%d blocks, at most %d; %d instructions, at most %d", len(f.Blocks), blocks, instructions(f), ins)
	}
	return ""
}

// counts are how many statements there are in a list, and how many expressions in them.
func counts(l []api.Act) (statements, expressions int) {
	for i := range l {
		a := &l[i]
		s, x := counts(a.Body)
		y, z := counts(a.Else)
		statements += 1 + s + y
		expressions += values(a.Kids) + x + z
	}
	return statements, expressions
}

func values(l []api.Val) int {
	n := len(l)
	for i := range l {
		n += values(l[i].Kids)
	}
	return n
}
