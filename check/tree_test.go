package check_test

import (
	"math"
	"slices"
	"testing"

	"theodolite/api"
	"theodolite/check"
)

// P13.5

const all = `type T struct { k int; l int; m int; }
type U struct { l int; }
func f(n int, b bool) int {
	var a [16]int;
	var s T;
	var u U; var one [1]int;
	a[n] = 7;
	s.k = a[n - 1]; s.m = s.l;
	u.l = -u.l;
	if b && n > 0 {
		var c bool = !b;
		n = f(n - 1, c);
		g();
		return n;
	} else {
		for n < 10 { n = n + 1; }
		var d int = 0;
		d = input();
	}
	if b { }
	f(n, true);
	return n;
}
func g() { return; }
func main() {
	print(1); return;
}`

func TestTree(t *testing.T) {
	call := func(point, v, n int, kids ...api.Val) api.Act {
		a := act(api.StCall, point, v, kids...)
		a.Call = n
		return a
	}
	setField := func(point, v, f int, x api.Val) api.Act {
		a := act(api.StField, point, v, x)
		a.Field = f
		return a
	}
	branch := act(api.StIf, 8, -1, cbin(cvar(1), api.OpAnd, cbin(cvar(0), api.OpGt, cnum(0))))
	branch.Body = []api.Act{
		act(api.StVar, 9, 6, cun(api.OpNot, cvar(1))), call(10, 0, 0, cbin(cvar(0), api.OpSub, cnum(1)), cvar(6)), call(11, -1, 1), act(api.StReturn, 12, -1, cvar(0)),
	}
	loop := act(api.StFor, 13, -1, cbin(cvar(0), api.OpLt, cnum(10)))
	loop.Body = []api.Act{act(api.StSet, 14, 0, cbin(cvar(0), api.OpAdd, cnum(1)))}
	branch.Else = []api.Act{loop, act(api.StVar, 15, 7, cnum(0)), act(api.StInput, 16, 7)}
	acts := []api.Act{
		act(api.StVar, 0, 2), act(api.StVar, 1, 3), act(api.StVar, 2, 4), act(api.StVar, 3, 5),
		act(api.StElem, 4, 2, cvar(0), cnum(7)), setField(5, 3, 0, celem(2, cbin(cvar(0), api.OpSub, cnum(1)))), setField(6, 3, 2, cfield(3, 1)), setField(7, 4, 0, cun(api.OpNeg, cfield(4, 0))),
		branch, act(api.StIf, 17, -1, cvar(1)), call(18, -1, 0, cvar(0), cnum(1)), act(api.StReturn, 19, -1, cvar(0)),
	}
	vars := []api.Var{cint("n"), cbool("b"), carray("a", 16), cstruct("s", "T", "k", "l", "m"), cstruct("u", "U", "l"), carray("one", 1), cbool("c"), cint("d")}
	upTo := func(n int, more ...int) (l []int) {
		for i := range n {
			l = append(l, i)
		}
		return append(l, more...)
	}
	var points []api.Point
	for i, line := range []int{4, 5, 6, 6, 7, 8, 8, 9, 10, 11, 12, 13, 14, 16, 16, 17, 18, 20, 21, 22} {
		scope := upTo(min(6, 2+i))
		switch i {
		case 10, 11, 12:
			scope = upTo(6, 6)
		case 16:
			scope = upTo(6, 7)
		}
		points = append(points, api.Point{Line: line, Scope: scope})
	}
	points = append(points, api.Point{Func: 1, Line: 24}, api.Point{Func: 2, Line: 26}, api.Point{Func: 2, Line: 26})
	isTree(t, source(t, all), api.Tree{
		Bodies: []api.Body{
			{Name: "f", Params: 2, Result: true, Vars: vars, Acts: acts}, {Name: "g", Acts: []api.Act{act(api.StReturn, 20, -1)}},
			{Name: "main", Acts: []api.Act{act(api.StPrint, 21, -1, cnum(1)), act(api.StReturn, 22, -1)}},
		},
		Main: 2, Points: points,
	})
}

// scopesOf are the names in scope at each point of a text's last function.
func scopesOf(t *testing.T, text string) (l [][]string) {
	t.Helper()
	x := says(t, text, 0, api.OK)
	last := len(x.Bodies) - 1
	for _, p := range x.Points {
		if p.Func != last {
			continue
		}
		if !slices.IsSorted(p.Scope) {
			t.Errorf("%s: a scope that does not rise: %v", text, p.Scope)
		}
		var names []string
		for _, v := range p.Scope {
			names = append(names, x.Bodies[last].Vars[v].Name)
		}
		l = append(l, names)
	}
	return l
}

func TestScopesOfPoints(t *testing.T) {
	for text, want := range map[string][][]string{
		"func main() { }": nil,
		"func main() { var a int = 1; var b [2]int; var c int = 2; print(c); }":                               {{}, {"a"}, {"a", "b"}, {"a", "b", "c"}},
		"func main() { if true { var a int = 1; print(a); } print(1); }":                                      {{}, {}, {"a"}, {}},
		"func main() { if true { var a int = 1; } else { var b int = 1; print(b); } var c int = 1; c = 1; }":  {{}, {}, {}, {"b"}, {}, {"c"}},
		"func main() { for true { var a int = 1; if true { var b int = 1; b = a; } else { a = 1; } a = 2; }}": {{}, {}, {"a"}, {"a"}, {"a", "b"}, {"a"}, {"a"}},
		"func main() { if true { if true { var a int = 1; a = 1; } } else { print(1); } print(2); }":          {{}, {}, {}, {"a"}, {}, {}},
		"func main() { var a int = 1; if true { } else { } for true { } print(1); var b int = 1; b = 1; }":    {{}, {"a"}, {"a"}, {"a"}, {"a"}, {"a", "b"}},
		"func main() { } func f(p int, q bool) { var r int = p; if q { var s int = r; s = 1; } r = 1; }":      {{"p", "q"}, {"p", "q", "r"}, {"p", "q", "r"}, {"p", "q", "r", "s"}, {"p", "q", "r"}},
		"func main() { if true { var a int = 1; } var b int = 1; if true { var c int = 1; b = c; } b = 1; }":  {{}, {}, {}, {"b"}, {"b"}, {"b", "c"}, {"b"}},
	} {
		if got := scopesOf(t, text); !slices.EqualFunc(got, want, slices.Equal) {
			t.Errorf("%s: %q, want %q", text, got, want)
		}
	}
}

// Lines are those of the statements, whatever they are.
func TestLinesOfPoints(t *testing.T) {
	lines := []int{7, 7, -1, 0, math.MaxInt, math.MinInt, 3, 1}
	p := source(t, "func f() { print(1); if true { print(2); } else { print(3); } } func main() { for true { print(4); } print(5); }")
	f, m := p.Funcs[0].Body, p.Funcs[1].Body
	for i, s := range []*api.Stmt{&f[0], &f[1], &f[1].Body[0], &f[1].Else[0], &m[0], &m[0].Body[0], &m[1]} {
		s.Line = lines[i]
	}
	p.Funcs[0].Line = 99
	x := comesTo(t, p, 0, api.OK)
	if len(x.Points) != 7 {
		t.Fatal(tell(x.Points))
	}
	for i, k := range x.Points {
		if want := i / 4; k.Line != lines[i] || k.Func != want {
			t.Errorf("point %d: line %d of function %d", i, k.Line, k.Func)
		}
	}
}

// Of what means nothing a tree has nothing.
func TestWhatATreeDoesNotHave(t *testing.T) {
	p := source(t, "type T struct { k int; } func main() { var x int = 1; var b bool = true; var a [2]int; var s T; s.k = x; }")
	plain := comesTo(t, p, 0, api.OK)
	l := p.Funcs[0].Body
	l[0].Type.N, l[0].Type.Name = 9, "nope"
	l[1].Type.N, l[1].Type.Name = 9, "T"
	l[2].Type.Name = "T"
	l[3].Type.N = 9
	p.Funcs = append(p.Funcs, api.Decl{Name: "f", Params: []api.Param{{Name: "n", Type: api.Type{Kind: api.TyInt, N: 9, Name: "nope"}}}, Result: api.Type{Kind: api.TyBool, N: 9, Name: "nope"}, Body: []api.Stmt{{Kind: api.StReturn, Kids: []api.Exp{truth(5)}}}})
	plain.Bodies = append(plain.Bodies, api.Body{Name: "f", Params: 1, Result: true, Vars: []api.Var{cint("n")}, Acts: []api.Act{act(api.StReturn, 5, -1, cnum(1))}})
	plain.Points = append(plain.Points, api.Point{Func: 1, Scope: []int{0}})
	isTree(t, p, plain)
}

// Names are names, whatever they are.
func TestNamesOfAnyText(t *testing.T) {
	for _, s := range []string{"", " ", "if", "0", "\x00", "é"} {
		p := source(t, "type n struct { n int; } func n(n int) int { n = n + n; if true { var m n; m.n = n; n = m.n; } return n; } func main() { }")
		want := comesTo(t, p, 0, api.OK)
		rename(&p, s)
		x, n, e := check.Program(p)
		if n != 0 || e != api.OK || x.Bodies[0].Name != s || x.Bodies[0].Vars[0].Name != s || x.Bodies[0].Vars[1].Fields[0] != s || !same(x.Points, want.Points) || !same(x.Bodies[0].Acts, want.Bodies[0].Acts) {
			t.Errorf("%q: %s, %d, error %d", s, tell(x), n, e)
		}
	}
	// A call whose result goes to an empty name is one that nothing takes.
	p := source(t, "func f() int { return 1; } func main() { var n int = 1; n = f(); }")
	rename(&p, "")
	p.Funcs[1].Body[1].Name = ""
	if x := comesTo(t, p, 0, api.OK); x.Bodies[1].Acts[1].Var != -1 {
		t.Error(tell(x))
	}
}

// rename gives all things with the name n another one.
func rename(p *api.Prog, to string) {
	turn := func(s *string) {
		if *s == "n" {
			*s = to
		}
	}
	for i := range p.Structs {
		turn(&p.Structs[i].Name)
		for k := range p.Structs[i].Fields {
			turn(&p.Structs[i].Fields[k])
		}
	}
	for i := range p.Funcs {
		d := &p.Funcs[i]
		turn(&d.Name)
		for k := range d.Params {
			turn(&d.Params[k].Name)
		}
	}
	for _, s := range statements(p) {
		turn(&s.Name)
		turn(&s.Field)
		turn(&s.Type.Name)
	}
	for _, x := range expressions(p) {
		turn(&x.Name)
		turn(&x.Field)
	}
}

// statements are all of a program.
func statements(p *api.Prog) (l []*api.Stmt) {
	var in func(all []api.Stmt)
	in = func(all []api.Stmt) {
		for i := range all {
			l = append(l, &all[i])
			in(all[i].Body)
			in(all[i].Else)
		}
	}
	for _, d := range p.Funcs {
		in(d.Body)
	}
	return l
}

// expressions are all of a program.
func expressions(p *api.Prog) (l []*api.Exp) {
	var in func(all []api.Exp)
	in = func(all []api.Exp) {
		for i := range all {
			l = append(l, &all[i])
			in(all[i].Kids)
		}
	}
	for _, s := range statements(p) {
		in(s.Kids)
	}
	return l
}
