package fold_test

import (
	"maps"
	"slices"
	"strconv"
	"strings"
	"testing"

	"theodolite/api"
)

// Units as great as they may be.

// greatForms are ends by a rule, for so many blocks; what would go below 1, or above the last one, goes there. A fork looks at virtual number A of those that withForm makes.
func greatForms(next func(int) int) map[string]func(b, last int) api.Term {
	split := func(is bool, yes, no api.Term) api.Term {
		if is {
			return yes
		}
		return no
	}
	on := func(to, other int) api.Term { return fork(next(3), to, other) }
	return map[string]func(b, last int) api.Term{
		"a row":             func(b, last int) api.Term { return split(b == last, ret(-1), jump(b+1)) },
		"a row from behind": func(b, last int) api.Term { return split(b == 0, jump(last), jump(b-1)) },
		"a row, always To":  func(b, last int) api.Term { return split(b == last, ret(-1), fork(lookAtOne, b+1, b-1)) },
		"a row, never To":   func(b, last int) api.Term { return split(b == last, ret(-1), fork(lookAtNought, last, b+1)) },
		"all to one":        func(b, last int) api.Term { return split(b == last, ret(-1), on(b+1, last)) },
		"all to themselves": func(b, last int) api.Term { return fork(lookAtInput+b%2, b+1, b) },
		"there and back":    func(b, last int) api.Term { return on(b+1, b-1) },
		"one or two on":     func(b, last int) api.Term { return on(b+1, b+2) },
		"two on, one back":  func(b, last int) api.Term { return on(b+2, b-1) },
		"a tree":            func(b, last int) api.Term { return fork(lookAtInput, 2*b+1, 2*b+2) },
		"a tree, cut":       func(b, last int) api.Term { return fork(lookAtInput-next(30)/29, 2*b+1, 2*b+2) },
		"fors in fors":      func(b, last int) api.Term { return split(b < last/2, on(b+1, last-b), jump(last-b-1)) },
		"thrown nearby":     func(b, last int) api.Term { return on(b+1, b+next(9)-3) },
		"thrown, most on":   func(b, last int) api.Term { return split(next(50) == 0, on(b+1, next(last+1)), jump(b+1)) },
		"thrown":            func(b, last int) api.Term { return fork(lookAtInput-next(40)/39, next(last+1), next(last+1)) },
	}
}

// withForm is a function whose blocks have ends by a rule. Each has so many operations, of virtuals of the first block, and of its own.
func withForm(next func(int) int, rule func(b, last int) api.Term, room int) api.Func {
	last := api.MaxBlocks - 1
	l := make([]api.Block, api.MaxBlocks)
	for b := range l {
		e := rule(b, last)
		if e.Kind != api.TermRet {
			e.To = min(max(e.To, 1), last)
		}
		if e.Kind == api.TermIf {
			e.Else = min(max(e.Else, 1), last)
		}
		l[b].Term = e
	}
	f := api.Func{Name: "main", Vars: vars(), Blocks: reachedOf(l)}
	first := []api.Ins{num(0, 0), num(1, -9), input(2), input(3), num(4, 2), num(5, 7)}
	f.Blocks[0].Ins = first
	f.Size = len(first)
	into := waysInto(&f)
	for b := range f.Blocks {
		lay(next, &f, b, into[b], room, len(first))
	}
	return f
}

// lay makes a block.
func lay(next func(int) int, f *api.Func, b int, into []int, room, first int) {
	x := &f.Blocks[b]
	own := f.Size
	one := func() int {
		if n := f.Size - own; n > 0 && next(2) == 0 {
			return own + next(n)
		}
		return next(first)
	}
	give := func(i api.Ins) {
		i.Dst = f.Size
		f.Size++
		x.Ins = append(x.Ins, i)
	}
	if b > 0 {
		come := phi(0, make([]int, len(into))...)
		for way := range come.Args {
			come.Args[way] = next(first)
		}
		give(come)
	}
	for range room {
		give(two(api.OpAdd+uint8(next(13)), 0, one(), one()))
	}
	if f.Size > own {
		x.Ins = append(x.Ins, put(f.Size-1), bind(vInt, own))
	}
	if x.Term.Kind == api.TermIf && x.Term.A == lookAtInput && next(3) == 0 {
		give(input(0))
		x.Term.A = f.Size - 1
	}
}

func TestGreatForms(t *testing.T) {
	forms := greatForms(dice(22))
	for _, name := range slices.Sorted(maps.Keys(forms)) {
		t.Run(name, func(t *testing.T) {
			next := dice(21)
			u := api.Unit{Funcs: []api.Func{withForm(next, forms[name], 30)}}
			var in []int64
			for range 400 {
				in = append(in, int64(next(3)-1))
			}
			in[0], in[1] = 4, 0
			keepsPromises(t, u, run{300, in}, run{300, in[1:]})
			small := api.Unit{Funcs: []api.Func{withForm(next, func(b, last int) api.Term { return forms[name](b%20, 19) }, 3)}}
			isRight(t, small, run{30, in}, run{30, in[1:]})
		})
	}
}

// As many instructions as may be, each of which can be reckoned when the one ahead of it was; in a row of as many blocks as may be, which stand in their order, or from behind.
func TestOneOfTheOther(t *testing.T) {
	for _, blocks := range []int{1, 2, api.MaxBlocks} {
		for _, isBack := range []bool{false, true} {
			got := keepsPromises(t, api.Unit{Funcs: []api.Func{chain(blocks, isBack)}}, run{})
			f := &got.Funcs[0]
			if consts := len(constsOf(f)); consts != api.MaxIns-1 || len(f.Blocks) != blocks {
				t.Errorf("%d blocks, %v: %d Consts in %d blocks", blocks, isBack, consts, len(f.Blocks))
			}
		}
	}
}

// chain is a function of such a row; each block ends with a fork that goes on, and has a way to the first one that is never taken.
func chain(blocks int, isBack bool) api.Func {
	f := api.Func{Name: "main", Size: api.MaxIns, Blocks: make([]api.Block, blocks)}
	at := func(n int) int {
		if isBack && n > 0 {
			return blocks - n
		}
		return n
	}
	size := 0
	for n := range blocks {
		x := &f.Blocks[at(n)]
		for size < (api.MaxIns-1)/blocks*(n+1) || n == blocks-1 && size < api.MaxIns-1 {
			i := num(0, 3)
			if size > 0 {
				i = two(api.OpAdd+uint8(size%3), size, size-1, 0)
			}
			x.Ins = append(x.Ins, i)
			size++
		}
		if x.Term = ret(-1); n < blocks-1 {
			x.Term = fork(0, at(n+1), 0)
		} else {
			x.Ins = append(x.Ins, put(size-1))
		}
	}
	return f
}

// As many functions as may be, each calling the next one.
func TestMostFunctions(t *testing.T) {
	var s strings.Builder
	for n := range api.MaxFuncs - 1 {
		name, inner := "f"+strconv.Itoa(n), "f"+strconv.Itoa(n+1)
		s.WriteString("func " + name + "(n int) int { var x int = 2 * 3; if x < 6 { x = 1 / 0; } for n > 1 + 0 { n = n / 2; x = x + n; } ")
		if n < api.MaxFuncs-2 {
			s.WriteString("x = " + inner + "(x); ")
		}
		s.WriteString("return x - n; }\n")
	}
	u := source(t, s.String()+"func main() { var x int = 0; x = input(); x = f0(x); print(x); }")
	if len(u.Funcs) != api.MaxFuncs {
		t.Fatalf("%d functions", len(u.Funcs))
	}
	isRight(t, u, run{900, []int64{5}}, run{900, []int64{0}}, run{900, []int64{-3}})
}

// Sources that are nested as deep as may be.
func TestDeep(t *testing.T) {
	for _, around := range []string{"for x < 3 { ", "if x < 3 { ", "if 0 - x < 3 { ", "for 1 < 0 { "} {
		var s, ends strings.Builder
		s.WriteString("func main() { var x int = 0; ")
		for n := range api.MaxDepth - 5 {
			v := "v" + strconv.Itoa(n)
			s.WriteString(around + "var " + v + " int = x + " + strconv.Itoa(n) + "; ")
			ends.WriteString("x = x + 1; print(x); } ")
		}
		for n := range api.MaxDepth - 5 {
			v := "v" + strconv.Itoa(n)
			s.WriteString("if " + v + " * 2 > " + strconv.Itoa(n) + " { " + v + " = " + v + " + x; } ")
		}
		isRight(t, source(t, s.String()+ends.String()+"print(x); }"), run{fuel: 1000}, run{fuel: 50})
	}
}
