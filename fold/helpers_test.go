package fold_test

import (
	"fmt"
	"reflect"
	"strconv"
	"strings"
	"testing"

	"theodolite/api"
	"theodolite/build"
	"theodolite/check"
	"theodolite/fold"
	"theodolite/sound"
	"theodolite/ssa"
	"theodolite/syntax"
	"theodolite/token"
)

// Instructions

func blank(op uint8) api.Ins { return api.Ins{Op: op, Dst: -1, A: -1, B: -1, Var: -1} }

func num(dst int, n int64) api.Ins {
	i := blank(api.InsConst)
	i.Dst, i.Num = dst, n
	return i
}

func arg(dst int, n int64) api.Ins {
	i := blank(api.InsArg)
	i.Dst, i.Num = dst, n
	return i
}

func again(dst, a int) api.Ins {
	i := blank(api.InsCopy)
	i.Dst, i.A = dst, a
	return i
}

func load(dst, v, a int) api.Ins {
	i := blank(api.InsLoad)
	i.Dst, i.Var, i.A = dst, v, a
	return i
}

func store(v, a, b int) api.Ins {
	i := blank(api.InsStore)
	i.Var, i.A, i.B = v, a, b
	return i
}

func field(dst, v int, n int64) api.Ins {
	i := blank(api.InsField)
	i.Dst, i.Var, i.Num = dst, v, n
	return i
}

func setField(v int, n int64, a int) api.Ins {
	i := blank(api.InsSetF)
	i.Var, i.Num, i.A = v, n, a
	return i
}

func zero(v int) api.Ins {
	i := blank(api.InsZero)
	i.Var = v
	return i
}

func call(dst int, f int64, args ...int) api.Ins {
	i := blank(api.InsCall)
	i.Dst, i.Num, i.Args = dst, f, args
	return i
}

func input(dst int) api.Ins {
	i := blank(api.InsInput)
	i.Dst = dst
	return i
}

func put(a int) api.Ins {
	i := blank(api.InsPrint)
	i.A = a
	return i
}

func mark(point int64) api.Ins {
	i := blank(api.InsMark)
	i.Num = point
	return i
}

func bind(v, a int) api.Ins {
	i := blank(api.InsBind)
	i.Var, i.A = v, a
	return i
}

func phi(dst int, args ...int) api.Ins {
	i := blank(api.InsPhi)
	i.Dst, i.Args = dst, args
	return i
}

// one is an operation of one side, two of two.
func one(op uint8, dst, a int) api.Ins {
	i := blank(op)
	i.Dst, i.A = dst, a
	return i
}

func two(op uint8, dst, a, b int) api.Ins {
	i := blank(op)
	i.Dst, i.A, i.B = dst, a, b
	return i
}

// Ends

func jump(to int) api.Term { return api.Term{Kind: api.TermJump, To: to} }

func fork(a, to, other int) api.Term {
	return api.Term{Kind: api.TermIf, A: a, To: to, Else: other}
}

func ret(a int) api.Term { return api.Term{Kind: api.TermRet, A: a} }

// Units

func block(end api.Term, l ...api.Ins) api.Block { return api.Block{Ins: l, Term: end} }

// The variables of each function: an int, a bool, an array of 3, a struct of 2.
const (
	vInt, vBool, vArray, vStruct = 0, 1, 2, 3
	someVars                     = 4
)

func vars() []api.Var {
	return []api.Var{
		{Name: "n", Type: api.Type{Kind: api.TyInt}, Words: 1},
		{Name: "b", Type: api.Type{Kind: api.TyBool}, Words: 1},
		{Name: "a", Type: api.Type{Kind: api.TyArray, N: 3}, Words: 3},
		{Name: "s", Type: api.Type{Kind: api.TyStruct, Name: "T"}, Words: 2, Fields: []string{"k", "l"}},
	}
}

// somePoints are how many of them each function has.
const somePoints = 4

// inMain is a unit whose main has these blocks, with 8 virtuals; its points are main's, but for the last four. There is a function of 2 parameters, too.
func inMain(l ...api.Block) api.Unit {
	u := api.Unit{Funcs: []api.Func{
		{Name: "main", Vars: vars(), Blocks: l, Size: 8},
		{Name: "f", Params: 2, Result: true, Vars: vars(), Blocks: []api.Block{block(ret(-1))}, Size: 8},
	}}
	for n := range 2 * somePoints {
		u.Points = append(u.Points, api.Point{Func: n / somePoints, Line: n + 1, Scope: []int{0, 1, 2, 3}})
	}
	return u
}

// source is the unit that ssa makes of a text.
func source(t *testing.T, text string) api.Unit {
	t.Helper()
	l, line, e := token.Scan([]byte(text))
	if e != api.OK {
		t.Fatalf("Scan(%s): line %d, error %d", text, line, e)
	}
	p, at, e := syntax.Parse(l)
	if e != api.OK {
		t.Fatalf("Parse(%s): %d, error %d", text, at, e)
	}
	x, n, e := check.Program(p)
	if e != api.OK {
		t.Fatalf("Program(%s): %d, error %d", text, n, e)
	}
	return ssa.To(build.Program(x))
}

// run is with which inputs, and with how much fuel, a trace is asked for.
type run struct {
	fuel int
	in   []int64
}

// isRight: Unit makes of a sound unit what the chapter says, that says the same at these runs, and nothing is turned that need not be.
func isRight(t *testing.T, u api.Unit, runs ...run) api.Unit {
	t.Helper()
	got := keepsPromises(t, u, runs...)
	if want := stepped(u); !same(got, want) {
		t.Fatalf("Unit(%s): %s, want %s", tell(u), tell(got), tell(want))
	}
	return got
}

// keepsPromises is of units that may be great.
func keepsPromises(t *testing.T, u api.Unit, runs ...run) api.Unit {
	t.Helper()
	if f, b, i, e := sound.Check(u); e != api.OK {
		t.Fatalf("%s: it is not sound: function %d, block %d, instruction %d: error %d", tell(u), f, b, i, e)
	}
	got := fold.Unit(u)
	if s := wrong(u, got); s != "" {
		t.Fatalf("Unit(%s): %s: %s", tell(u), tell(got), s)
	}
	for _, r := range runs {
		if is, want := traceOf(got, r), traceOf(u, r); is != want {
			t.Fatalf("Unit(%s): %s: its trace, inputs %d, fuel %d: %s, want %s", tell(u), tell(got), r.in, r.fuel, end(is), end(want))
		}
	}
	return got
}

// end is the end of a text that may be long.
func end(s string) string { return s[max(0, len(s)-2000):] }

// tell is a unit as a text, if it is no great one: of each function its blocks, of each instruction its Op and what is not as if it had it not.
func tell(u api.Unit) string {
	l := []string{fmt.Sprintf("Main %d", u.Main)}
	for n, f := range u.Funcs {
		l = append(l, fmt.Sprintf("| func %d, %d Vars, %d Params, Size %d", n, len(f.Vars), f.Params, f.Size))
		for b, x := range f.Blocks {
			if len(l) > 300 {
				return "a great unit"
			}
			l = append(l, fmt.Sprintf("%d:", b))
			for i := range x.Ins {
				if len(l) > 300 {
					return "a great unit"
				}
				l = append(l, tellIns(&x.Ins[i]))
			}
			l = append(l, fmt.Sprintf("end%v", x.Term))
		}
	}
	return strings.Join(l, " ")
}

func tellIns(i *api.Ins) string {
	s := strconv.Itoa(int(i.Op))
	for _, part := range []struct {
		name       string
		is, absent int64
	}{{"d", int64(i.Dst), -1}, {"a", int64(i.A), -1}, {"b", int64(i.B), -1}, {"v", int64(i.Var), -1}, {"n", i.Num, 0}} {
		if part.is != part.absent {
			s += part.name + strconv.FormatInt(part.is, 10)
		}
	}
	if len(i.Args) > 0 {
		s += fmt.Sprint(i.Args)
	}
	return s + ";"
}

// same tells whether two things are the same; lists that are nil and empty are.
func same(a, b any) bool { return sameValue(reflect.ValueOf(a), reflect.ValueOf(b)) }

func sameValue(a, b reflect.Value) bool {
	switch a.Kind() {
	case reflect.Struct:
		for i := range a.NumField() {
			if !sameValue(a.Field(i), b.Field(i)) {
				return false
			}
		}
		return true
	case reflect.Slice:
		if a.Len() != b.Len() {
			return false
		}
		for i := range a.Len() {
			if !sameValue(a.Index(i), b.Index(i)) {
				return false
			}
		}
		return true
	}
	return a.Equal(b)
}

// dice answers numbers below n that look thrown, the same ones each time.
func dice(seed uint64) func(n int) int {
	return func(n int) int {
		seed = seed*6364136223846793005 + 1442695040888963407
		return int(seed >> 33 % uint64(n))
	}
}
