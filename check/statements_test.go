package check_test

import (
	"slices"
	"strings"
	"testing"

	"theodolite/api"
	"theodolite/check"
)

// P13.2

// Within: test is function 5 (x 0, b 1, a 2, s 3), of declaration 6.
const ahead = "type T struct { k int; l int; } func main() { } func p() { } func q(n int, b bool) { } func f(n int) int { return n; } func g() bool { return true; } func test(x int, b bool) { var a [3]int; var s T; "

const within = 6

// inTest is a program in which these statements, as a text, stand in test.
func inTest(t *testing.T, text string) api.Prog {
	t.Helper()
	return source(t, ahead+text+" }")
}

// body has the statements of test.
func body(p *api.Prog) *[]api.Stmt { return &p.Funcs[len(p.Funcs)-1].Body }

// stands: statements in test come to that.
func stands(t *testing.T, text string, want api.Errno) api.Tree {
	t.Helper()
	return comesTo(t, inTest(t, text), within, want)
}

func standAll(t *testing.T, all map[string]api.Errno) {
	t.Helper()
	for text, want := range all {
		stands(t, text, want)
		for _, c := range [][2]string{{"", "print(1);"}, {"print(1);", ""}, {"if b {", "}"}, {"for b {", "}"}, {"if b { } else {", "}"}, {"if b { for b { } } else { if b { print(1);", "print(2); } } print(3);"}} {
			stands(t, c[0]+" "+text+" "+c[1], want)
		}
		stands(t, text+" nope = 1;", map[bool]api.Errno{true: api.ErrName, false: want}[want == api.OK])
		stands(t, text+" print(true);", map[bool]api.Errno{true: api.ErrType, false: want}[want == api.OK])
		stands(t, "nope = 1; "+text, api.ErrName)
		stands(t, "print(true); "+text, api.ErrType)
	}
}

func TestVar(t *testing.T) {
	standAll(t, map[string]api.Errno{
		"var y int = 1;":         api.OK,
		"var y int = x;":         api.OK,
		"var y bool = b;":        api.OK,
		"var y bool = 1 < x;":    api.OK,
		"var y int;":             api.ErrType,
		"var y bool;":            api.ErrType,
		"var y int = true;":      api.ErrType,
		"var y bool = 1;":        api.ErrType,
		"var y int = nope;":      api.ErrName,
		"var y int = y;":         api.ErrName,
		"var y int = a;":         api.ErrType,
		"var y T = s;":           api.ErrType,
		"var y [1]int;":          api.OK,
		"var y [16]int;":         api.OK,
		"var y [0]int;":          api.ErrType,
		"var y [17]int;":         api.ErrType,
		"var y [3]int = 1;":      api.ErrType,
		"var y [3]int = a;":      api.ErrType,
		"var y T;":               api.OK,
		"var y T = 1;":           api.ErrType,
		"var y U;":               api.ErrName,
		"var y x;":               api.ErrName,
		"var y f;":               api.ErrName,
		"var x int = 1;":         api.ErrName,
		"var b bool = true;":     api.ErrName,
		"var a int = 1;":         api.ErrName,
		"var s T;":               api.ErrName,
		"var f int = 1;":         api.OK,
		"var T T;":               api.OK,
		"var test int = 1;":      api.OK,
		"var k int = 1;":         api.OK,
		"var X int = 1;":         api.OK,
		"var y [2000000000]int;": api.ErrType,

		// the variable and its type are ahead of the value, what that is ahead of whether it fits
		"var x int = 1 + true;":     api.ErrName,
		"var x [0]int;":             api.ErrName,
		"var x int;":                api.ErrName,
		"var x bool = 1;":           api.ErrName,
		"var y U = 1 + true;":       api.ErrName,
		"var y [0]int = nope;":      api.ErrType,
		"var y [17]int = nope;":     api.ErrType,
		"var y [3]int = nope;":      api.ErrName,
		"var y T = nope;":           api.ErrName,
		"var y bool = 1 + nope;":    api.ErrName,
		"var y int = true && nope;": api.ErrName,
	})
}

func TestVarsOfStrangeTypes(t *testing.T) {
	for _, k := range append(strangeTypes(), api.Type{}, api.Type{Kind: api.TyArray, N: -1}) {
		for name, want := range map[string]api.Errno{"y": api.ErrType, "x": api.ErrName} {
			for _, kids := range [][]api.Exp{nil, {num(1)}, {named("nope")}, {num(1), num(1)}} {
				p := inTest(t, "")
				*body(&p) = append(*body(&p), api.Stmt{Kind: api.StVar, Name: name, Type: k, Kids: kids})
				isWrong(t, p, within, want)
			}
		}
	}
}

func TestSet(t *testing.T) {
	standAll(t, map[string]api.Errno{
		"x = 1;":      api.OK,
		"x = x;":      api.OK,
		"b = b;":      api.OK,
		"b = !b;":     api.OK,
		"x = a[x];":   api.OK,
		"x = s.k;":    api.OK,
		"x = true;":   api.ErrType,
		"b = 1;":      api.ErrType,
		"x = b;":      api.ErrType,
		"a = 1;":      api.ErrType,
		"a = a;":      api.ErrType,
		"s = s;":      api.ErrType,
		"s = 1;":      api.ErrType,
		"x = a;":      api.ErrType,
		"x = s;":      api.ErrType,
		"nope = 1;":   api.ErrName,
		"x = nope;":   api.ErrName,
		"T = 1;":      api.ErrName,
		"f = 1;":      api.ErrName,
		"k = 1;":      api.ErrName,
		"n = 1;":      api.ErrName,
		"nope = s;":   api.ErrName,
		"x = f;":      api.ErrName,
		"nope = b+1;": api.ErrName,
		"a = nope;":   api.ErrType, // the target is ahead of the value
		"s = nope;":   api.ErrType,
		"b = 1+nope;": api.ErrName, // what the value is is ahead of whether it fits
		"x = y; ":     api.ErrName,
	})
}

func TestElem(t *testing.T) {
	standAll(t, map[string]api.Errno{
		"a[0] = 1;":         api.OK,
		"a[x] = a[x];":      api.OK,
		"a[a[a[x]]] = s.l;": api.OK,
		"a[3] = 1;":         api.OK, // that there is no such word is not told ahead
		"a[-1] = 1;":        api.OK,
		"a[true] = 1;":      api.ErrType,
		"a[1] = true;":      api.ErrType,
		"a[b] = b;":         api.ErrType,
		"x[0] = 1;":         api.ErrType,
		"s[0] = 1;":         api.ErrType,
		"b[0] = 1;":         api.ErrType,
		"nope[0] = 1;":      api.ErrName,
		"a[nope] = 1;":      api.ErrName,
		"a[0] = nope;":      api.ErrName,
		"a[a] = 1;":         api.ErrType,
		"a[0] = a;":         api.ErrType,
		"nope[1+true] = 1;": api.ErrName,
		"x[nope] = 1;":      api.ErrType,
		"s[0] = nope;":      api.ErrType,
		"a[true] = nope;":   api.ErrName,
		"a[1+true] = nope;": api.ErrType,
		"a[nope] = 1+true;": api.ErrName,
	})
}

func TestField(t *testing.T) {
	standAll(t, map[string]api.Errno{
		"s.k = 1;":         api.OK,
		"s.l = s.k + s.l;": api.OK,
		"s.m = 1;":         api.ErrName,
		"s.s = 1;":         api.ErrName,
		"s.x = 1;":         api.ErrName,
		"nope.k = 1;":      api.ErrName,
		"T.k = 1;":         api.ErrName,
		"s.k = true;":      api.ErrType,
		"s.k = nope;":      api.ErrName,
		"s.k = s;":         api.ErrType,
		"x.k = 1;":         api.ErrType,
		"a.k = 1;":         api.ErrType,
		"b.k = true;":      api.ErrType,
		"x.m = 1;":         api.ErrType,
		"x.k = nope;":      api.ErrType,
		"s.m = 1 + true;":  api.ErrName,
		"nope.k = true+1;": api.ErrName,
	})
}

func TestCall(t *testing.T) {
	standAll(t, map[string]api.Errno{
		"p();":                  api.OK,
		"f(1);":                 api.OK,
		"g();":                  api.OK,
		"q(1, true);":           api.OK,
		"q(x, b);":              api.OK,
		"x = f(x);":             api.OK,
		"b = g();":              api.OK,
		"test(x, b);":           api.OK,
		"main();":               api.OK,
		"x = f(f);":             api.ErrName,
		"p(1);":                 api.ErrType,
		"f();":                  api.ErrType,
		"f(1, 2);":              api.ErrType,
		"f(true);":              api.ErrType,
		"f(a);":                 api.ErrType,
		"q(1);":                 api.ErrType,
		"q(true, 1);":           api.ErrType,
		"q(1, 1);":              api.ErrType,
		"q(true, true);":        api.ErrType,
		"q(1, true, 1);":        api.ErrType,
		"x = p();":              api.ErrType,
		"x = g();":              api.ErrType,
		"b = f(1);":             api.ErrType,
		"x = f();":              api.ErrType,
		"x = f(b);":             api.ErrType,
		"x = q(1, true);":       api.ErrType,
		"a = f(1);":             api.ErrType,
		"s = g();":              api.ErrType,
		"a = p();":              api.ErrType,
		"nope();":               api.ErrName,
		"x();":                  api.ErrName,
		"T();":                  api.ErrName,
		"x = nope();":           api.ErrName,
		"nope = f(1);":          api.ErrName,
		"f(nope);":              api.ErrName,
		"q(x, nope);":           api.ErrName,
		"nope(1 + true);":       api.ErrName, // what is called is ahead of the arguments
		"x = nope(1 + true);":   api.ErrName,
		"nope = f(1 + true);":   api.ErrName,
		"nope = p();":           api.ErrName,
		"a = nope();":           api.ErrType, // where the result goes is ahead of that
		"a = f(nope);":          api.ErrType,
		"q(true, nope);":        api.ErrName, // what all of them are is ahead of whether they fit
		"p(nope);":              api.ErrName,
		"f(1, nope);":           api.ErrName,
		"x = p(nope);":          api.ErrName,
		"x = g(nope);":          api.ErrName,
		"q(1 + true, nope);":    api.ErrType,
		"q(nope, 1 + true);":    api.ErrName,
		"q(1, true, 1 + true);": api.ErrType,
	})
}

// What a call fits is what the function says ahead of its list, even if that is wrong further on.
func TestCallsOfWhatIsWrong(t *testing.T) {
	for text, want := range map[string]struct {
		n int
		e api.Errno
	}{
		"func main() { f(1); } func f(a [3]int) { }":                                                    {0, api.ErrType},
		"func main() { f(1); } func f(a U) { }":                                                         {0, api.ErrType},
		"func main() { f(1, 2); } func f(a int, a int) { }":                                             {1, api.ErrName},
		"func main() { f(1); } func f(a int) U { }":                                                     {1, api.ErrName},
		"func main() { f(1); } func f(a int) [3]int { }":                                                {1, api.ErrType},
		"func main() { var x int = 1; x = f(1); } func f(a int) [3]int { }":                             {0, api.ErrType},
		"func main() { var x [3]int; x = f(1); } func f(a int) [3]int { }":                              {0, api.ErrType},
		"func main() { var x T; x = f(1); } func f(a int) T { } type T struct { a int; }":               {1, api.ErrType},
		"func main() { f(1, 2, 3, 4, 5, 6, 7); } func f(a int,b int,c int,d int,e int,f int,g int) { }": {1, api.ErrType},
		"func main() { f(1); } func f(a int) int { }":                                                   {1, api.ErrFlow},
		"func main() { f(1); } func f(a int) { nope = 1; }":                                             {1, api.ErrName},
	} {
		says(t, text, want.n, want.e)
	}
}

func TestIfAndFor(t *testing.T) {
	for _, word := range []string{"if", "for"} {
		all := map[string]api.Errno{
			"@ true { }":                      api.OK,
			"@ b { x = 1; }":                  api.OK,
			"@ x < 1 && !b { p(); }":          api.OK,
			"@ x { }":                         api.ErrType,
			"@ 1 { }":                         api.ErrType,
			"@ a { }":                         api.ErrType,
			"@ nope { }":                      api.ErrName,
			"@ b { nope = 1; }":               api.ErrName,
			"@ b { x = true; }":               api.ErrType,
			"@ b { x = 1; x = 2; b = 3; }":    api.ErrType,
			"@ x { nope = 1; }":               api.ErrType, // the condition is ahead of the list
			"@ nope { x = true; }":            api.ErrName,
			"@ b { @ b { @ b { @ x { } } } }": api.ErrType,
			"@ b { @ b { @ b { @ b { } } nope(); } }":      api.ErrName,
			"@ b { @ b { @ b { @ x { } } nope(); } }":      api.ErrType,
			"@ b { @ b { @ b { @ nope { } } x = true; } }": api.ErrName,
		}
		for text, want := range all {
			standAll(t, map[string]api.Errno{strings.ReplaceAll(text, "@", word): want})
		}
	}
	standAll(t, map[string]api.Errno{
		"if b { } else { }":                           api.OK,
		"if b { } else { x = 1; }":                    api.OK,
		"if b { } else { nope = 1; }":                 api.ErrName,
		"if b { } else { x = true; }":                 api.ErrType,
		"if b { nope = 1; } else { x = true; }":       api.ErrName,
		"if b { x = true; } else { nope = 1; }":       api.ErrType,
		"if x { } else { nope = 1; }":                 api.ErrType,
		"if b { x = 1; x = 2; } else { x = b; }":      api.ErrType,
		"if b { if b { } else { nope(); } } else { }": api.ErrName,
	})
}

func TestPrintAndInput(t *testing.T) {
	standAll(t, map[string]api.Errno{
		"print(1);":        api.OK,
		"print(x);":        api.OK,
		"print(a[1]+s.k);": api.OK,
		"print(b);":        api.ErrType,
		"print(true);":     api.ErrType,
		"print(a);":        api.ErrType,
		"print(nope);":     api.ErrName,
		"x = input();":     api.OK,
		"b = input();":     api.ErrType,
		"a = input();":     api.ErrType,
		"s = input();":     api.ErrType,
		"nope = input();":  api.ErrName,
	})
}

func TestReturn(t *testing.T) {
	standAll(t, map[string]api.Errno{
		"return;":          api.OK,
		"return 1;":        api.ErrType,
		"return true;":     api.ErrType,
		"return nope;":     api.ErrName,
		"return a;":        api.ErrType,
		"return 1 + true;": api.ErrType,
	})
	for text, want := range map[string]api.Errno{
		"func f() int { return 1; }":         api.OK,
		"func f(x int) int { return x; }":    api.OK,
		"func f() int { return true; }":      api.ErrType,
		"func f() int { return; }":           api.ErrType,
		"func f() int { return nope; }":      api.ErrName,
		"func f() bool { return false; }":    api.OK,
		"func f() bool { return 1; }":        api.ErrType,
		"func f() bool { return; }":          api.ErrType,
		"func f() bool { return 1 + nope; }": api.ErrName,
		"func f() int { return; return 1; }": api.ErrType,
	} {
		says(t, text+" func main() { }", 0, want)
	}
}

// Scopes

func TestScopes(t *testing.T) {
	for text, want := range map[string]api.Errno{
		"var y int = 1; y = y;":                                             api.OK,
		"y = 1; var y int = 1;":                                             api.ErrName,
		"print(y); var y int = 1;":                                          api.ErrName,
		"var y int = x; var z int = y; x = z;":                              api.OK,
		"var z int = y; var y int = x;":                                     api.ErrName,
		"if b { var y int = 1; y = 2; }":                                    api.OK,
		"if b { var y int = 1; } y = 2;":                                    api.ErrName,
		"for b { var y int = 1; } y = 2;":                                   api.ErrName,
		"if b { } else { var y int = 1; } y = 2;":                           api.ErrName,
		"if b { var y int = 1; } else { y = 2; }":                           api.ErrName,
		"if b { var y int = 1; } else { var y int = 1; }":                   api.ErrName,
		"if b { var y int = 1; } var y int = 1;":                            api.ErrName,
		"var y int = 1; if b { var y int = 1; }":                            api.ErrName,
		"var y int = 1; if b { y = 2; } else { y = 3; } for y < 1 { y=4; }": api.OK,
		"for y < 1 { var y int = 1; }":                                      api.ErrName,
		"for b { y = 1; var y int = 1; }":                                   api.ErrName,
		"for b { var y int = 1; if b { y = 2; } y = 3; }":                   api.OK,
		"if b { var y int = 1; if b { var z int = 1; y = z; } y = 2; }":     api.OK,
		"if b { var y int = 1; if b { var z int = 1; y = z; } y = z; }":     api.ErrName,
		"if b { var y int = 1; if b { } else { var z int = 1; } z = y; }":   api.ErrName,
		"if b { var z int = 1; } if b { var y int = 1; y = y; }":            api.OK,
		"if b { var z int = 1; } if b { var y int = 1; z = y; }":            api.ErrName,
		"if b { var z int = 1; } var y int = 1; y = z;":                     api.ErrName,
		"if b { var z int = 1; } var y int = 1; y = y; x = y; a[0] = x;":    api.OK,
		"if b { var c [2]int; } c[0] = 1;":                                  api.ErrName,
		"if b { var c [2]int; } x = c[0];":                                  api.ErrName,
		"if b { var c T; } c.k = 1;":                                        api.ErrName,
		"if b { var c T; } x = c.k;":                                        api.ErrName,
		"if b { var c int = 1; } c = f(1);":                                 api.ErrName,
		"if b { var c int = 1; } c = input();":                              api.ErrName,
		"if b { var c T; } c = 1;":                                          api.ErrName,
		"return; x = 1; return;":                                            api.OK,
		"return; nope = 1;":                                                 api.ErrName,
	} {
		stands(t, text, want)
	}
}

// What one function declares the others do not see.
func TestScopesOfFunctions(t *testing.T) {
	for text, n := range map[string]int{
		"func f(a int) { var v int = a; } func main() { a = 1; }":                                    1,
		"func f(a int) { var v int = a; } func main() { v = 1; }":                                    1,
		"func main() { a = 1; } func f(a int) { }":                                                   0,
		"func f(a int) { var v int = a; } func main() { var v bool = true; var a T; }":               1,
		"func f(a int) { var v int = a; } func g(v bool) { var a bool = v; } func main() { v = 1; }": 2,
	} {
		says(t, text, n, api.ErrName)
	}
	says(t, "func f(a int) { var v int = a; } func g(v bool) { var a bool = v; } func main() { var a [2]int; var v [2]int; }", 0, api.OK)
}

// What no source says

// oneMore are test's statements with one more behind them.
func oneMore(t *testing.T, s api.Stmt) api.Prog {
	t.Helper()
	p := inTest(t, "")
	*body(&p) = append(*body(&p), s)
	return p
}

func TestStatementsOfNoKind(t *testing.T) {
	for _, kind := range []uint8{0, 11, 12, 100, 255} {
		for _, c := range []struct {
			kids []api.Exp
			want api.Errno
		}{
			{nil, api.ErrType}, {[]api.Exp{num(1)}, api.ErrType}, {[]api.Exp{num(1), named("nope")}, api.ErrName}, {[]api.Exp{bin(num(1), "+", truth(1)), named("nope")}, api.ErrType}, {[]api.Exp{named("nope"), {}}, api.ErrName}, {[]api.Exp{{}, named("nope")}, api.ErrType},
		} {
			s := api.Stmt{Kind: kind, Kids: c.kids}
			isWrong(t, oneMore(t, s), within, c.want)
			s.Name, s.Field, s.Call, s.Type = "nope", "nope", "nope", api.Type{Kind: api.TyStruct, Name: "nope"}
			s.Body = []api.Stmt{{Kind: api.StSet, Name: "nope", Kids: []api.Exp{num(1)}}}
			s.Else = s.Body
			isWrong(t, oneMore(t, s), within, c.want)
		}
	}
}

// samples are right statements of all kinds.
func samples(t *testing.T) []api.Stmt {
	t.Helper()
	p := inTest(t, "var y int = 1; var z T; var w [2]int; x = 1; a[0] = 1; s.k = 1; p(); f(1); x = f(1); q(1, b); if b { } for b { } print(1); x = input(); return;")
	return (*body(&p))[2:]
}

// Too few values, or too many, are what they are, and do not fit.
func TestHowManyValues(t *testing.T) {
	for _, s := range samples(t) {
		comesTo(t, oneMore(t, s), within, api.OK)
		kids := s.Kids
		for n := range len(kids) + 3 {
			if n == len(kids) {
				continue
			}
			for _, x := range []api.Exp{num(1), truth(1), named("x"), named("b")} {
				s.Kids = append(slices.Clone(kids[:min(n, len(kids))]), slices.Repeat([]api.Exp{x}, max(0, n-len(kids)))...)
				isWrong(t, oneMore(t, s), within, api.ErrType)
			}
		}
		s.Kids = append(slices.Clone(kids), named("nope"))
		isWrong(t, oneMore(t, s), within, api.ErrName)
		s.Kids = append(slices.Clone(kids), bin(num(1), "+", truth(1)), named("nope"))
		isWrong(t, oneMore(t, s), within, api.ErrType)
		s.Kids = append([]api.Exp{named("nope")}, kids...)
		isWrong(t, oneMore(t, s), within, api.ErrName)
	}
}

// Body is looked at of if and for alone, Else of if alone; and what else a statement of a kind does not have is not looked at.
func TestWhatAStatementDoesNotHave(t *testing.T) {
	wrong := []api.Stmt{{Kind: api.StSet, Name: "nope", Kids: []api.Exp{num(1)}}}
	for i, s := range samples(t) {
		want := comesTo(t, oneMore(t, s), within, api.OK)
		for what, e := range map[string]bool{"Body": s.Kind == api.StIf || s.Kind == api.StFor, "Else": s.Kind == api.StIf, "Field": s.Kind == api.StField, "Call": s.Kind == api.StCall, "Type": s.Kind == api.StVar, "Name": slices.Contains([]uint8{1, 2, 3, 4, 9}, s.Kind) || s.Kind == api.StCall} {
			x := s
			switch what {
			case "Body":
				x.Body = wrong
			case "Else":
				x.Else = wrong
			case "Field":
				x.Field = "nope"
			case "Call":
				x.Call = "nope"
			case "Type":
				x.Type = api.Type{Kind: api.TyStruct, Name: "nope"}
			case "Name":
				x.Name = "a"
				if s.Kind != api.StVar && s.Kind != api.StElem {
					x.Name = "nope"
				}
				if s.Kind == api.StElem {
					continue
				}
			}
			if e {
				isWrong(t, oneMore(t, x), within, api.ErrName)
			} else if got, n, err := check.Program(oneMore(t, x)); n != 0 || err != api.OK || !same(got, want) {
				t.Errorf("statement %d, %s: %s, %d, error %d", i, what, tell(got), n, err)
			}
		}
	}
}
