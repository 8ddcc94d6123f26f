package check_test

import (
	"fmt"
	"math"
	"slices"
	"strconv"
	"strings"
	"testing"

	"theodolite/api"
	"theodolite/check"
)

// P13.1

const example = "func main() {\nvar x int = 2;\nfor x > 0 {\nprint(x);\nx = x - 1;\n}\n}"

func TestExample(t *testing.T) {
	p := source(t, example)
	loop := act(api.StFor, 1, -1, cbin(cvar(0), api.OpGt, cnum(0)))
	loop.Body = []api.Act{act(api.StPrint, 2, -1, cvar(0)), act(api.StSet, 3, 0, cbin(cvar(0), api.OpSub, cnum(1)))}
	isTree(t, p, api.Tree{
		Bodies: []api.Body{{Name: "main", Vars: []api.Var{cint("x")}, Acts: []api.Act{act(api.StVar, 0, 0, cnum(2)), loop}}},
		Points: []api.Point{{Line: 2}, {Line: 3, Scope: []int{0}}, {Line: 4, Scope: []int{0}}, {Line: 5, Scope: []int{0}}},
	})
	p.Funcs[0].Body[0].Name = "y"
	isWrong(t, p, 0, api.ErrName)
}

const whole = "func f(n int) int {\nvar y int = n + 1;\nreturn y;\n} func main() {\nvar x int = 2;\nx = f(x);\nprint(x);\n}"

func TestTheWholesExample(t *testing.T) {
	call := act(api.StCall, 3, 0, cvar(0))
	call.Call = 0
	isTree(t, source(t, whole), api.Tree{
		Bodies: []api.Body{
			{Name: "f", Params: 1, Result: true, Vars: []api.Var{cint("n"), cint("y")}, Acts: []api.Act{
				act(api.StVar, 0, 1, cbin(cvar(0), api.OpAdd, cnum(1))), act(api.StReturn, 1, -1, cvar(1)),
			}},
			{Name: "main", Vars: []api.Var{cint("x")}, Acts: []api.Act{act(api.StVar, 2, 0, cnum(2)), call, act(api.StPrint, 4, -1, cvar(0))}},
		},
		Main: 1,
		Points: []api.Point{
			{Line: 2, Scope: []int{0}}, {Line: 3, Scope: []int{0, 1}}, {Func: 1, Line: 5}, {Func: 1, Line: 6, Scope: []int{0}}, {Func: 1, Line: 7, Scope: []int{0}},
		},
	})
}

func TestOfNothing(t *testing.T) {
	isWrong(t, api.Prog{}, 0, api.ErrName)
	isWrong(t, api.Prog{Structs: []api.Struct{}, Funcs: []api.Decl{}}, 0, api.ErrName)
	isWrong(t, api.Prog{Structs: []api.Struct{{}}}, 0, api.ErrType)
	isWrong(t, api.Prog{Funcs: []api.Decl{{}}}, 1, api.ErrName)
	isTree(t, source(t, "func main() { }"), api.Tree{Bodies: []api.Body{{Name: "main"}}})
}

// Structs

// fields are so many, no two of one name.
func fields(n int) string {
	s := ""
	for i := range n {
		s += "f" + strconv.Itoa(i) + " int; "
	}
	return s
}

func TestStructs(t *testing.T) {
	for text, want := range map[string]api.Errno{
		"type T struct { a int; }":                              api.OK,
		"type T struct { T int; }":                              api.OK,
		"type T struct { " + fields(api.MaxFields-1) + "}":      api.OK,
		"type T struct { " + fields(api.MaxFields) + "}":        api.OK,
		"type T struct { " + fields(api.MaxFields+1) + "}":      api.ErrType,
		"type T struct { " + fields(100) + "}":                  api.ErrType,
		"type T struct { }":                                     api.ErrType,
		"type T struct { a int; a int; }":                       api.ErrName,
		"type T struct { a int; b int; c int; a int; }":         api.ErrName,
		"type T struct { a int; b int; c int; c int; }":         api.ErrName,
		"type T struct { a int; A int; }":                       api.OK,
		"type T struct { " + fields(api.MaxFields) + "f7 int;}": api.ErrName,
		"type T struct { " + fields(100) + "f99 int; }":         api.ErrName,
	} {
		says(t, text+" func main() { }", 0, want)
		for _, ahead := range []string{"type A struct { a int; } ", "type A struct { b int; } ", "func f() { } type A struct { f0 int; f1 int; } "} {
			says(t, ahead+text+" func main() { }", 1, want)
		}
	}
}

func TestStructsOfOneName(t *testing.T) {
	a, b, main := "type A struct { a int; } ", "type B struct { a int; } ", "func main() { } "
	none, twice := "type A struct { } ", "type A struct { b int; b int; } "
	for text, n := range map[string]int{
		a + a + main: 1, a + b + a + main: 2, b + a + a + b + main: 2, a + main + a: 1, main + a + b + a: 2, a + none + main: 1, a + twice + main: 1,
	} {
		says(t, text, n, api.ErrName)
	}
	says(t, a+b+main, 0, api.OK)
	says(t, b+a+main, 0, api.OK)
	says(t, none+a+main, 0, api.ErrType)
}

// Types, functions, variables and fields do not come in each other's way.
func TestNamesOfDifferentThings(t *testing.T) {
	for _, text := range []string{
		"type main struct { main int; } func main() { }",
		"type main struct { main int; } func main() { var main main; main.main = 1; print(main.main); main(); }",
		"type f struct { f int; } func f(f int) int { f = f + 1; return f; } func main() { }",
		"type f struct { f int; } func f(f int) int { return f; } func main() { var f int = 1; f = f(f); f(f); var s f; s.f = f; }",
		"type A struct { a int; } type B struct { a int; } func a(A int, B int) { var C A; var a B; a.a = C.a; } func b(A int, B bool) { } func main() { }",
	} {
		says(t, text, 0, api.OK)
	}
}

// Functions

func TestHeaders(t *testing.T) {
	const ints = "a int, b int, c int, d int, e int, f int"
	for text, want := range map[string]api.Errno{
		"func f() { }":                            api.OK,
		"func f() int { return 1; }":              api.OK,
		"func f() bool { return true; }":          api.OK,
		"func f(a int) { }":                       api.OK,
		"func f(a bool, b int) { }":               api.OK,
		"func f(g int) int { return g; }":         api.OK,
		"func f(" + ints + ") { }":                api.OK,
		"func f(" + ints + ", h int) { }":         api.ErrType,
		"func f(" + ints + ", h int, i bool) { }": api.ErrType,
		"func f(a [3]int) { }":                    api.ErrType,
		"func f(a int, b [3]int) { }":             api.ErrType,
		"func f(a [0]int) { }":                    api.ErrType,
		"func f(a T) { }":                         api.ErrType,
		"func f(a T, b int) { }":                  api.ErrType,
		"func f() [3]int { }":                     api.ErrType,
		"func f() T { }":                          api.ErrType,
		"func f(a U) { }":                         api.ErrName,
		"func f(a int, b U) { }":                  api.ErrName,
		"func f() U { }":                          api.ErrName,
		"func f(a int) U { }":                     api.ErrName,
		"func f() f { }":                          api.ErrName,
		"func f(a a) { }":                         api.ErrName,
		"func f(a int, a int) { }":                api.ErrName,
		"func f(a int, b int, a bool) { }":        api.ErrName,
		"func f(a int, b int, b bool) { }":        api.ErrName,
		"func g() { }":                            api.ErrName,

		// names are ahead of what types are
		"func f(a [3]int, b U) { }":      api.ErrName,
		"func f(a T, b int, b int) { }":  api.ErrName,
		"func f(a [3]int) U { }":         api.ErrName,
		"func f(a U) [3]int { }":         api.ErrName,
		"func f(" + ints + ", g U) { }":  api.ErrName,
		"func f(" + ints + ", a int) {}": api.ErrName,
		"func g(a [3]int) { }":           api.ErrName,
		"func g() T { }":                 api.ErrName,
		"func g(" + ints + ", g int) {}": api.ErrName,

		// and what is ahead of the list is ahead of what is in it, the end of it last
		"func f(a T) { nope = 1; }":                    api.ErrType,
		"func f() T { nope = 1; }":                     api.ErrType,
		"func f(a U) { print(true); }":                 api.ErrName,
		"func f(a U) int { }":                          api.ErrName,
		"func f(a T) int { }":                          api.ErrType,
		"func f(" + ints + ", g int) { nope = 1; }":    api.ErrType,
		"func f(a int) int { nope = 1; }":              api.ErrName,
		"func f(a int) int { print(true); }":           api.ErrType,
		"func f(a int) int { print(1); }":              api.ErrFlow,
		"func f(a int) int { return 1; return a; }":    api.OK,
		"func f(a int) int { return 1; return true; }": api.ErrType,
	} {
		says(t, "type T struct { a int; } func g() { } "+text+" func main() { }", 2, want)
		says(t, "func main() { } func g() { } "+text+" type V struct { a int; } type T struct { a int; }", 4, want)
	}
}

// strangeTypes are of kinds that there are not.
func strangeTypes() []api.Type {
	return []api.Type{{Kind: 5}, {Kind: 255}, {Kind: 128, N: 3, Name: "T"}}
}

func TestHeadersOfStrangeTypes(t *testing.T) {
	main, ret := api.Decl{Name: "main"}, []api.Stmt{{Kind: api.StReturn, Kids: []api.Exp{num(1)}}}
	for _, k := range strangeTypes() {
		isWrong(t, api.Prog{Funcs: []api.Decl{{Name: "f", Result: k}, main}}, 0, api.ErrType)
		isWrong(t, api.Prog{Funcs: []api.Decl{{Name: "f", Result: k, Body: ret}, main}}, 0, api.ErrType)
		isWrong(t, api.Prog{Funcs: []api.Decl{main, {Name: "f", Params: []api.Param{{Name: "a", Type: k}}}}}, 1, api.ErrType)
		isWrong(t, api.Prog{Funcs: []api.Decl{main, {Name: "f", Params: []api.Param{{Name: "a", Type: k}, {Name: "a", Type: k}}}}}, 1, api.ErrName)
	}
	isWrong(t, api.Prog{Funcs: []api.Decl{main, {Name: "f", Params: []api.Param{{Name: "a"}}}}}, 1, api.ErrType)
	isTree(t, api.Prog{Funcs: []api.Decl{{Name: "main", Result: api.Type{N: 7, Name: "T"}}}}, api.Tree{Bodies: []api.Body{{Name: "main"}}})
}

func TestFunctionsOfOneName(t *testing.T) {
	f, g, main := "func f() { } ", "func g() { } ", "func main() { } "
	for text, n := range map[string]int{
		f + f + main: 1, f + g + f + main: 2, g + f + f + g + main: 2, main + f + main: 2, main + main: 1, f + "func f(a int) int { nope = 1; } " + main: 1, f + main + "type T struct { a int; } " + f: 3,
		// Which one a call calls that stands ahead: the first, whatever the other one is.
		"func a() { f(1); } func f(x int) { } func f() { } " + main: 2, "func a() { f(1); } func f() { } func f(x int) { } " + main: -1,
	} {
		if n < 0 {
			says(t, text, 0, api.ErrType)
		} else {
			says(t, text, n, api.ErrName)
		}
	}
	says(t, f+g+main, 0, api.OK)
}

func TestMain(t *testing.T) {
	for text, want := range map[string]struct {
		n int
		e api.Errno
	}{
		"":                                 {0, api.ErrName},
		"type main struct { a int; }":      {1, api.ErrName},
		"func f() { }":                     {1, api.ErrName},
		"func Main() { } func main1() { }": {2, api.ErrName},
		"func main(a int) { }":             {1, api.ErrName},
		"func main() int { return 1; }":    {1, api.ErrName},
		"type T struct { a int; } func main(a bool) { } func f() { }":                   {3, api.ErrName},
		"func f() { } func main() bool { return true; } type T struct { a int; }":       {3, api.ErrName},
		"func main(a int) { nope = 1; }":                                                {0, api.ErrName},
		"func main(a int) { print(true); }":                                             {0, api.ErrType},
		"func main() int { }":                                                           {0, api.ErrFlow},
		"func main(a [3]int) { }":                                                       {0, api.ErrType},
		"func f() { nope = 1; }":                                                        {0, api.ErrName},
		"type T struct { } func f() { }":                                                {0, api.ErrType},
		"func main(a int) { } func f() { } func g() int { }":                            {2, api.ErrFlow},
		"func f() { main(); } func main() { f(); }":                                     {0, api.OK},
		"func main() { main(); }":                                                       {0, api.OK},
		"func f() { main(1); } func main() { }":                                         {0, api.ErrType},
		"func f() { main(1); } func main(a int) { }":                                    {2, api.ErrName},
		"func f() { } func g() { } type T struct { a int; } func main() { } func h(){}": {0, api.OK},
	} {
		x := says(t, text, want.n, want.e)
		if want.e == api.OK && x.Bodies[x.Main].Name != "main" {
			t.Errorf("%s: main is function %d", text, x.Main)
		}
	}
}

// Which declaration is told

// wrongs are declarations that are wrong wherever they stand, and what is: of structs, and of functions. Where @ is stands what parts them.
func wrongs() (structs, funcs map[string]api.Errno) {
	structs = map[string]api.Errno{"type S@ struct { }": api.ErrType, "type S@ struct { a int; a int; }": api.ErrName, "type S@ struct { a int; }": api.OK}
	funcs = map[string]api.Errno{
		"func f@(a U) { }": api.ErrName, "func f@(a [3]int) { }": api.ErrType, "func f@() int { }": api.ErrFlow, "func f@() { nope = 1; }": api.ErrName, "func f@() { print(true); }": api.ErrType, "func f@() { }": api.OK,
	}
	return structs, funcs
}

// Structs are ahead of functions, and each of them is in its order, whatever stands ahead of what in the text.
func TestTheFirstDeclaration(t *testing.T) {
	structs, funcs := wrongs()
	type decl struct {
		text     string
		isStruct bool
		e        api.Errno
	}
	var all []decl
	for s, e := range structs {
		all = append(all, decl{s, true, e})
	}
	for s, e := range funcs {
		all = append(all, decl{s, false, e})
	}
	for _, a := range all {
		for _, b := range all {
			for _, c := range all {
				text := ""
				var order [2][]decl
				for i, d := range []decl{a, b, c} {
					text += strings.ReplaceAll(d.text, "@", strconv.Itoa(i)) + " "
					k := 1
					if d.isStruct {
						k = 0
					}
					order[k] = append(order[k], d)
				}
				l := append(order[0], order[1]...)
				n := slices.IndexFunc(l, func(d decl) bool { return d.e != api.OK })
				if n < 0 {
					says(t, text+"func main() { }", 0, api.OK)
					says(t, text, 3, api.ErrName)
				} else {
					says(t, text+"func main() { }", n, l[n].e)
					says(t, text, n, l[n].e)
				}
			}
		}
	}
}

// What is too great, of the whole

// functions are so many, main the last of them.
func functions(n int) string {
	s := ""
	for i := range n - 1 {
		s += "func f" + strconv.Itoa(i) + "() { } "
	}
	return s + "func main() { } "
}

// variables are statements that declare so many, no two of one name.
func variables(n int) string {
	s := ""
	for i := range n {
		s += []string{"var v%d int = 1; ", "var v%d bool = true; ", "var v%d [2]int; ", "if true { var v%d int = 1; } "}[i%4]
		s = strings.ReplaceAll(s, "%d", strconv.Itoa(i))
	}
	return s
}

func TestHowManyFunctionsThereMayBe(t *testing.T) {
	for n, want := range map[int]api.Errno{1: api.OK, api.MaxFuncs - 1: api.OK, api.MaxFuncs: api.OK, api.MaxFuncs + 1: api.ErrDeep, 500: api.ErrDeep} {
		x := says(t, functions(n), 0, want)
		if want == api.OK && x.Main != n-1 {
			t.Errorf("main is function %d of %d", x.Main, n)
		}
		says(t, fmt.Sprintf("type T struct { %s } %s", fields(8), functions(n)), 0, want)
	}
}

func TestHowManyVariablesThereMayBe(t *testing.T) {
	for n, want := range map[int]api.Errno{0: api.OK, api.MaxVars - 1: api.OK, api.MaxVars: api.OK, api.MaxVars + 1: api.ErrDeep, 300: api.ErrDeep} {
		says(t, "func main() { "+variables(n)+"}", 0, want)
		says(t, "func main() { } func f() { "+variables(n)+"}", 0, want)
		says(t, "func main() { "+variables(api.MaxVars)+"} func f() { "+variables(n)+"} func g() { "+variables(api.MaxVars)+"}", 0, want)
	}
	for n, want := range map[int]api.Errno{api.MaxVars - 6: api.OK, api.MaxVars - 5: api.ErrDeep} {
		says(t, "func f(a int, b int, c int, d int, e int, f int) { "+variables(n)+"} func main() { }", 0, want)
	}
}

func TestHowManyPointsThereMayBe(t *testing.T) {
	const most = api.MaxPoints
	for n, want := range map[int]api.Errno{0: api.OK, most - 1: api.OK, most: api.OK, most + 1: api.ErrDeep, 5 * most: api.ErrDeep} {
		says(t, "func main() { "+strings.Repeat("print(1); ", n)+"}", 0, want)
		if n < 10 {
			continue
		}
		says(t, "func main() { if true { "+strings.Repeat("print(1); ", n-1)+"} }", 0, want)
		says(t, "func main() { if true { } else { "+strings.Repeat("print(1); ", n-1)+"} }", 0, want)
		says(t, "func main() { for true { "+strings.Repeat("return; ", n-2)+"} print(1); }", 0, want)
		says(t, "func f() { "+strings.Repeat("print(1); ", n-6)+"} func main() { "+strings.Repeat("main(); ", 4)+"} func g() int { if true { } return 1; }", 0, want)
	}
}

// What is too great is told last.
func TestErrDeepIsLast(t *testing.T) {
	great := []string{
		functions(api.MaxFuncs + 1), "func main() { " + variables(api.MaxVars+1) + "}", "func main() { " + strings.Repeat("print(1); ", api.MaxPoints+1) + "}",
		"func g() { " + variables(api.MaxVars+1) + strings.Repeat("print(1); ", api.MaxPoints) + "} " + functions(api.MaxFuncs),
	}
	for _, text := range great {
		n := strings.Count(text, "func ")
		says(t, text, 0, api.ErrDeep)
		says(t, text+"type T struct { }", 0, api.ErrType)
		says(t, text+"type T struct { a int; a int; }", 0, api.ErrName)
		says(t, text+"func last() { print(true); }", n, api.ErrType)
		says(t, text+"func last() { print(1); nope = 1; }", n, api.ErrName)
		says(t, text+"func last() int { }", n, api.ErrFlow)
		says(t, text+"func last(a [2]int) { }", n, api.ErrType)
		says(t, text+"func main() { }", n, api.ErrName)
		says(t, strings.ReplaceAll(text, "func main()", "func nain()"), n, api.ErrName)
		says(t, strings.ReplaceAll(text, "func main()", "func main(a int)"), n, api.ErrName)
		says(t, text+"func last() { }", 0, api.ErrDeep)
	}
}

// R1: numbers that mean nothing.
func TestNumbersOfAnySize(t *testing.T) {
	for _, n := range []int{0, 1, -1, math.MaxInt, math.MinInt} {
		x, _, e := check.Program(api.Prog{Funcs: []api.Decl{{Name: "main", Line: n, Body: []api.Stmt{{Kind: api.StPrint, Line: n, Kids: []api.Exp{num(int64(n))}}}}}})
		if e != api.OK || x.Points[0].Line != n || x.Bodies[0].Acts[0].Kids[0].Num != int64(n) {
			t.Errorf("%d: %s, error %d", n, tell(x), e)
		}
	}
}
