package ssa_test

import (
	"fmt"
	"slices"

	"theodolite/api"
	"theodolite/sound"
)

// The chapter's words, taken as they stand.

// makes tells whether an instruction makes a virtual.
func makes(i *api.Ins) bool {
	switch i.Op {
	case api.InsConst, api.InsArg, api.InsGet, api.InsCopy, api.InsLoad, api.InsField, api.InsInput, api.InsPhi:
		return true
	case api.InsCall:
		return i.Dst != -1
	}
	return i.Op <= api.OpNeg
}

// looks are the virtuals at which an instruction looks.
func looks(i *api.Ins) []int {
	switch i.Op {
	case api.OpNot, api.OpNeg, api.InsSet, api.InsCopy, api.InsLoad, api.InsSetF, api.InsPrint:
		return []int{i.A}
	case api.InsStore:
		return []int{i.A, i.B}
	case api.InsCall, api.InsPhi:
		return i.Args
	case api.InsBind:
		if i.A == -1 {
			return nil
		}
		return []int{i.A}
	}
	if i.Op <= api.OpOr {
		return []int{i.A, i.B}
	}
	return nil
}

func endLooks(t api.Term) []int {
	if t.Kind == api.TermIf || t.Kind == api.TermRet && t.A != -1 {
		return []int{t.A}
	}
	return nil
}

// goals are the blocks to which an end goes.
func goals(t api.Term) []int {
	switch t.Kind {
	case api.TermJump:
		return []int{t.To}
	case api.TermIf:
		return []int{t.To, t.Else}
	}
	return nil
}

func waysInto(f *api.Func) [][]int {
	into := make([][]int, len(f.Blocks))
	for b := range f.Blocks {
		for _, to := range goals(f.Blocks[b].Term) {
			into[to] = append(into[to], b)
		}
	}
	return into
}

// metWithout are the blocks to whose heads a way goes that goes through none of some (it may end in one of them).
func metWithout(f *api.Func, some func(b int) bool) []bool {
	met := make([]bool, len(f.Blocks))
	for row := []int{0}; len(row) > 0; row = row[1:] {
		b := row[0]
		if met[b] {
			continue
		}
		met[b] = true
		if !some(b) {
			row = append(row, goals(f.Blocks[b].Term)...)
		}
	}
	return met
}

// Plain units

// notPlain: why a unit is not; nothing, if it is.
func notPlain(u api.Unit) string {
	if _, _, _, e := sound.Check(u); e == api.ErrArg {
		return "it may not be"
	}
	for n := range u.Funcs {
		f := &u.Funcs[n]
		for _, s := range []string{virtualsNotPlain(f), marksNotPlain(f), waysNotPlain(f), setsNotPlain(u, f)} {
			if s != "" {
				return fmt.Sprintf("function %d: %s", n, s)
			}
		}
	}
	return ""
}

func virtualsNotPlain(f *api.Func) string {
	in := slices.Repeat([]int{-1}, f.Size)
	for b, x := range f.Blocks {
		for at := range x.Ins {
			i := &x.Ins[at]
			if i.Op == api.InsBind || i.Op == api.InsPhi || i.Op == api.InsCopy {
				return fmt.Sprintf("block %d, instruction %d", b, at)
			}
			for _, v := range looks(i) {
				if in[v] != b {
					return fmt.Sprintf("block %d, instruction %d looks at %d", b, at, v)
				}
			}
			if makes(i) {
				if in[i.Dst] >= 0 {
					return fmt.Sprintf("block %d, instruction %d makes %d again", b, at, i.Dst)
				}
				in[i.Dst] = b
			}
		}
		for _, v := range endLooks(x.Term) {
			if in[v] != b {
				return fmt.Sprintf("the end of block %d", b)
			}
		}
	}
	return ""
}

func marksNotPlain(f *api.Func) string {
	met := map[int64]bool{}
	for _, b := range f.Blocks {
		for _, i := range b.Ins {
			if i.Op == api.InsMark && met[i.Num] {
				return fmt.Sprintf("two Marks of %d", i.Num)
			}
			if i.Op == api.InsMark {
				met[i.Num] = true
			}
		}
	}
	return ""
}

func waysNotPlain(f *api.Func) string {
	if len(waysInto(f)[0]) > 0 {
		return "a way back into the first block"
	}
	if b := slices.Index(metWithout(f, func(int) bool { return false }), false); b >= 0 {
		return fmt.Sprintf("no way leads to %d", b)
	}
	return ""
}

// setsNotPlain: a scalar is asked for, or stands in a Mark's scope, where there may have been no Set of it.
func setsNotPlain(u api.Unit, f *api.Func) string {
	for v, x := range f.Vars {
		if x.Type.Kind != api.TyInt && x.Type.Kind != api.TyBool {
			continue
		}
		bare := metWithout(f, func(b int) bool { return hasSet(f, b, v) })
		for b := range f.Blocks {
			isSet := !bare[b]
			for at, i := range f.Blocks[b].Ins {
				asks := i.Op == api.InsGet && i.Var == v || i.Op == api.InsMark && slices.Contains(u.Points[i.Num].Scope, v)
				if asks && !isSet {
					return fmt.Sprintf("block %d, instruction %d: no Set of %d", b, at, v)
				}
				isSet = isSet || i.Op == api.InsSet && i.Var == v
			}
		}
	}
	return ""
}

func hasSet(f *api.Func, b, v int) bool {
	return slices.ContainsFunc(f.Blocks[b].Ins, func(i api.Ins) bool { return i.Op == api.InsSet && i.Var == v })
}

// What To makes of them

// wrong: what is wrong with a unit that was made of a plain one, in words; nothing, if it is as P17.1 (but for its trace) and P17.2 say.
func wrong(u, got api.Unit) string {
	if f, b, i, e := sound.Check(got); e != api.OK {
		return fmt.Sprintf("function %d, block %d, instruction %d: error %d", f, b, i, e)
	}
	if len(got.Funcs) != len(u.Funcs) || got.Main != u.Main || !same(got.Points, u.Points) {
		return "its functions, Main or Points"
	}
	for n := range u.Funcs {
		f, g := &u.Funcs[n], &got.Funcs[n]
		if f.Name != g.Name || f.Params != g.Params || f.Result != g.Result || !same(f.Vars, g.Vars) {
			return fmt.Sprintf("function %d: its name, Params, Result or Vars", n)
		}
		if s := blocksWrong(f, g, phisOf(f)); s != "" {
			return fmt.Sprintf("function %d: %s", n, s)
		}
	}
	return ""
}

// phisOf are of each block the scalars of which a Phi is to stand at its head.
func phisOf(f *api.Func) []map[int]bool {
	edge := edgeOf(f)
	l := make([]map[int]bool, len(f.Blocks))
	for b := range l {
		l[b] = map[int]bool{}
	}
	for v := range f.Vars {
		bare := metWithout(f, func(b int) bool { return hasSet(f, b, v) })
		met := make([]bool, len(f.Blocks))
		var row []int
		for b := range f.Blocks {
			if hasSet(f, b, v) {
				row = append(row, edge[b]...)
			}
		}
		for ; len(row) > 0; row = row[1:] {
			if b := row[0]; !met[b] {
				met[b] = true
				row = append(row, edge[b]...)
			}
		}
		for b := range l {
			if met[b] && !bare[b] {
				l[b][v] = true
			}
		}
	}
	return l
}

// edgeOf is what chapter 15 calls so, of a function to all of whose blocks a way leads.
func edgeOf(f *api.Func) [][]int {
	into := waysInto(f)
	edge := make([][]int, len(f.Blocks))
	for a := range f.Blocks {
		past := metWithout(f, func(b int) bool { return b == a })
		standsOver := func(b int) bool { return b == a || !past[b] }
		for b := range f.Blocks {
			if standsOver(b) && b != a {
				continue
			}
			if slices.ContainsFunc(into[b], standsOver) {
				edge[a] = append(edge[a], b)
			}
		}
	}
	return edge
}

// blocksWrong holds a function's blocks against those that they were made of.
func blocksWrong(f, g *api.Func, phis []map[int]bool) string {
	if len(f.Blocks) != len(g.Blocks) {
		return fmt.Sprintf("%d blocks", len(g.Blocks))
	}
	for b := range f.Blocks {
		if !sameEnd(f.Blocks[b].Term, g.Blocks[b].Term) {
			return fmt.Sprintf("block %d: its end", b)
		}
		if s := insWrong(f.Blocks[b].Ins, g.Blocks[b].Ins, phis[b]); s != "" {
			return fmt.Sprintf("block %d: %s", b, s)
		}
	}
	return ""
}

// sameEnd tells whether two ends are the same, but for what they look at.
func sameEnd(x, y api.Term) bool {
	if len(endLooks(x)) > 0 && len(endLooks(y)) > 0 {
		y.A = x.A
	}
	return x == y
}

// insWrong holds a block's instructions against those that they were made of. Phis are those of scalars that are told, each with its Bind behind them all; where a Set was there is a Bind; what else makes a virtual of nothing but others may be there or not.
func insWrong(of, l []api.Ins, phis map[int]bool) string {
	heads, rest := headsOf(l)
	if len(heads) != len(phis) || len(rest) < len(heads) {
		return fmt.Sprintf("%d Phis, want %d", len(heads), len(phis))
	}
	met := map[int]bool{}
	for n := range heads {
		i := &rest[n]
		if i.Op != api.InsBind || i.A != heads[n].Dst || !phis[i.Var] || met[i.Var] {
			return fmt.Sprintf("no Bind of Phi %d of one of %v", n, phis)
		}
		met[i.Var] = true
	}
	kept, want := keptOf(rest[len(heads):]), keptOf(of)
	if len(kept) != len(want) {
		return fmt.Sprintf("%d kept, want %d", len(kept), len(want))
	}
	for n := range want {
		if !isKept(want[n], kept[n]) {
			return fmt.Sprintf("%s was kept as %s", tellIns(&want[n]), tellIns(&kept[n]))
		}
	}
	return ""
}

// headsOf are a block's Phis, and what stands behind them.
func headsOf(l []api.Ins) (heads, rest []api.Ins) {
	n := 0
	for n < len(l) && l[n].Op == api.InsPhi {
		n++
	}
	return l[:n], l[n:]
}

// keptOf are those of some instructions that are kept, or stand for one that is.
func keptOf(l []api.Ins) (kept []api.Ins) {
	for _, i := range l {
		if i.Op > api.OpNeg && i.Op != api.InsConst && i.Op != api.InsArg && i.Op != api.InsGet {
			kept = append(kept, i)
		}
	}
	return kept
}

// isKept tells whether an instruction is one that was there, but for what it looks at; of a Set a Bind.
func isKept(was, is api.Ins) bool {
	switch was.Op {
	case api.InsSet:
		return is.Op == api.InsBind && is.Var == was.Var && is.A != -1
	case api.InsCall:
		if len(is.Args) != len(was.Args) {
			return false
		}
		is.Args = was.Args
	case api.InsStore:
		is.A, is.B = was.A, was.B
	case api.InsLoad, api.InsSetF, api.InsPrint:
		is.A = was.A
	}
	return same(was, is)
}
