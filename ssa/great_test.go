package ssa_test

import (
	"maps"
	"slices"
	"strconv"
	"strings"
	"testing"

	"theodolite/api"
	"theodolite/sound"
	"theodolite/ssa"
)

// Units as great as they may be.

// scalars are so many of them.
func scalars(n int) []api.Var { return slices.Repeat(vars()[:1], n) }

// greatForms are ends by a rule, for so many blocks; what would go below 1, or above the last one, goes there.
func greatForms(next func(int) int) map[string]func(b, last int) api.Term {
	split := func(is bool, yes, no api.Term) api.Term {
		if is {
			return yes
		}
		return no
	}
	on := func(to, other int) api.Term { return fork(0, to, other) }
	return map[string]func(b, last int) api.Term{
		"a row":             func(b, last int) api.Term { return split(b == last, ret(-1), jump(b+1)) },
		"a row from behind": func(b, last int) api.Term { return split(b == 0, jump(last), jump(b-1)) },
		"all to one":        func(b, last int) api.Term { return split(b == last, ret(-1), on(b+1, last)) },
		"all to the second": func(b, last int) api.Term { return on(b+1, 1) },
		"all to themselves": func(b, last int) api.Term { return on(b+1, b) },
		"there and back":    func(b, last int) api.Term { return on(b+1, b-1) },
		"one or two on":     func(b, last int) api.Term { return on(b+1, b+2) },
		"two on, one back":  func(b, last int) api.Term { return on(b+2, b-1) },
		"a tree":            func(b, last int) api.Term { return on(2*b+1, 2*b+2) },
		"fors in fors":      func(b, last int) api.Term { return split(b < last/2, on(b+1, last-b), jump(last-b-1)) },
		"ifs in ifs": func(b, last int) api.Term {
			return split(b <= last/2, on(b+1, last-b), split(b == last, ret(-1), jump(b+1)))
		},
		"thrown nearby":      func(b, last int) api.Term { return on(b+1, b+next(9)-3) },
		"thrown, most on":    func(b, last int) api.Term { return split(next(50) == 0, on(b+1, next(last+1)), jump(b+1)) },
		"thrown":             func(b, last int) api.Term { return on(next(last+1), next(last+1)) },
		"from both sides in": func(b, last int) api.Term { return split(b < last/2, on(last-b, b+1), on(last-b, b-1)) },
	}
}

func greatEnds(rule func(b, last int) api.Term) []api.Block {
	last := api.MaxBlocks - 1
	l := make([]api.Block, api.MaxBlocks)
	for b := range l {
		e := rule(b, last)
		if e.Kind != api.TermRet {
			e.To = min(max(e.To, 1), last)
		}
		if e.Kind == api.TermIf {
			e.Else = min(max(e.Else, 1), last)
		}
		l[b].Term = e
	}
	return reachedOf(l)
}

func TestGreatForms(t *testing.T) {
	forms := greatForms(dice(22))
	for _, name := range slices.Sorted(maps.Keys(forms)) {
		t.Run(name, func(t *testing.T) {
			next := dice(21)
			u := api.Unit{Funcs: []api.Func{{Name: "main", Vars: scalars(9)}}}
			makerOf(next, &u, 0).blocks(greatEnds(forms[name]), 40)
			var in []int64
			for range 400 {
				in = append(in, int64(next(3)-1))
			}
			isRight(t, u, run{300, in}, run{300, in[200:]})
		})
	}
}

// As many blocks, scalars and instructions as may be, and no number of a virtual is left but those of what goes: each block of the row but the first two has a Phi of each scalar, and asks for many.
func TestNoNumberIsLeft(t *testing.T) {
	const many = api.MaxVars
	u := api.Unit{Funcs: []api.Func{{Name: "main", Vars: scalars(many), Blocks: greatEnds(greatForms(nil)["one or two on"])}}}
	f := &u.Funcs[0]
	room := api.MaxIns
	virtual := func(b int, i api.Ins) int {
		i.Dst = f.Size
		f.Size++
		room--
		f.Blocks[b].Ins = append(f.Blocks[b].Ins, i)
		return i.Dst
	}
	for b := range f.Blocks {
		x := &f.Blocks[b]
		x.Term.A = virtual(b, input(0))
		for v := range many {
			if b < 2 {
				room--
				x.Ins = append(x.Ins, set(v, x.Term.A))
			}
		}
	}
	for b := range f.Blocks {
		n := room / (len(f.Blocks) - b)
		for k := range n {
			virtual(b, get(0, k%many))
		}
	}
	if f.Size != api.MaxIns-2*many || instructions(f) != api.MaxIns {
		t.Fatalf("Size %d, %d instructions", f.Size, instructions(f))
	}
	got := isRight(t, u, run{9, []int64{1, 0, 1, 0, 0, 0, 1, 1, 0}})
	if n := phisOfUnit(got); n != many*(api.MaxBlocks-2) {
		t.Errorf("%d Phis", n)
	}
}

func instructions(f *api.Func) (n int) {
	for _, b := range f.Blocks {
		n += len(b.Ins)
	}
	return n
}

// As many instructions as may be, all of which stay, and one block of them.
func TestMostInstructions(t *testing.T) {
	u := inMain(block(ret(-1), num(0, 7), set(vInt, 0)))
	f := &u.Funcs[0]
	l := &f.Blocks[0].Ins
	for f.Size = 1; len(*l) < api.MaxIns; {
		switch len(*l) % 4 {
		case 0:
			*l = append(*l, set(vInt, f.Size-1))
		case 1:
			*l = append(*l, get(f.Size, vInt))
			f.Size++
		case 2:
			*l = append(*l, put(f.Size-1))
		default:
			*l = append(*l, two(api.OpAdd, f.Size, 0, f.Size-1))
			f.Size++
		}
	}
	isRight(t, u, run{})
}

// There may be as many variables as one likes.
func TestManyVariables(t *testing.T) {
	const many = 60000
	u := api.Unit{Funcs: []api.Func{{Name: "main", Vars: scalars(many), Size: 5, Blocks: []api.Block{
		block(fork(0, 1, 2), input(0)),
		block(jump(3), input(1)),
		block(jump(3), input(2)),
		block(ret(-1), get(3, many-1), put(3), get(4, 0), put(4)),
	}}}}
	for v := range many {
		for b := 1; b < 3; b++ {
			x := &u.Funcs[0].Blocks[b]
			x.Ins = append(x.Ins, set(v, b))
		}
	}
	got := ssa.To(u)
	if _, _, _, e := sound.Check(got); e != api.OK {
		t.Fatal(e)
	}
	if n := phisOfUnit(got); n != many {
		t.Errorf("%d Phis", n)
	}
	saysTheSame(t, u, got, run{1, []int64{1, 5}}, run{1, []int64{0, 6}}, run{1, nil})
}

// As many functions as may be, each calling the next one.
func TestMostFunctions(t *testing.T) {
	var s strings.Builder
	for n := range api.MaxFuncs - 1 {
		name, inner := "f"+strconv.Itoa(n), "f"+strconv.Itoa(n+1)
		s.WriteString("func " + name + "(n int) int { var x int = n; for n > 1 { n = n / 2; x = x + n; } ")
		if n < api.MaxFuncs-2 {
			s.WriteString("x = " + inner + "(x); ")
		}
		s.WriteString("return x - n; }\n")
	}
	u := source(t, s.String()+"func main() { var x int = 0; x = input(); x = f0(x); print(x); }")
	if len(u.Funcs) != api.MaxFuncs {
		t.Fatalf("%d functions", len(u.Funcs))
	}
	isRight(t, u, run{900, []int64{5}}, run{900, []int64{0}}, run{900, []int64{-3}})
}

// Sources that are nested as deep as may be, each statement with a variable of its own, and all of those around it in scope.
func TestDeep(t *testing.T) {
	for _, around := range []string{"for x < 3 { ", "if x < 3 { "} {
		var s, ends strings.Builder
		s.WriteString("func main() { var x int = 0; ")
		for n := range api.MaxDepth - 5 {
			v := "v" + strconv.Itoa(n)
			s.WriteString(around + "var " + v + " int = x; ")
			ends.WriteString("x = x + 1; print(x); } ")
		}
		for n := range api.MaxDepth - 5 {
			v := "v" + strconv.Itoa(n)
			s.WriteString("if x > 1 { " + v + " = " + v + " + x; } ")
		}
		isRight(t, source(t, s.String()+ends.String()+"print(x); }"), run{fuel: 1000}, run{fuel: 50})
	}
}
