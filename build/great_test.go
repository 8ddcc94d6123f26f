package build_test

import (
	"strconv"
	"strings"
	"testing"

	"theodolite/api"
	"theodolite/build"
)

// Trees about as great as check lets them be: of each there is a unit that may be.

func yes() api.Exp { return truth(1) }

func print1() api.Stmt { return statement(api.StPrint, "", num(1)) }

// around are statements that a list may stand in.
func around() map[string]func(inner []api.Stmt) []api.Stmt {
	list := func(l ...api.Stmt) []api.Stmt { return l }
	return map[string]func(inner []api.Stmt) []api.Stmt{
		"if":                  func(l []api.Stmt) []api.Stmt { return list(branch(yes(), l, nil)) },
		"else":                func(l []api.Stmt) []api.Stmt { return list(branch(truth(0), nil, l)) },
		"if, with an else":    func(l []api.Stmt) []api.Stmt { return list(branch(yes(), l, list(print1()))) },
		"else, behind an if":  func(l []api.Stmt) []api.Stmt { return list(branch(truth(0), list(print1()), l)) },
		"else, if not back":   func(l []api.Stmt) []api.Stmt { return list(branch(truth(0), list(statement(api.StReturn, "")), l)) },
		"if, something more":  func(l []api.Stmt) []api.Stmt { return list(branch(yes(), l, nil), print1()) },
		"something, if":       func(l []api.Stmt) []api.Stmt { return list(print1(), branch(yes(), l, nil)) },
		"for":                 func(l []api.Stmt) []api.Stmt { return list(loop(yes(), l...)) },
		"for, something more": func(l []api.Stmt) []api.Stmt { return list(loop(yes(), l...), print1()) },
		"something, for":      func(l []api.Stmt) []api.Stmt { return list(print1(), loop(yes(), l...)) },
		"for of two":          func(l []api.Stmt) []api.Stmt { return list(loop(yes(), append(l, print1())...)) },
		"for, if":             func(l []api.Stmt) []api.Stmt { return list(loop(yes(), branch(yes(), l, nil))) },
		"if, for":             func(l []api.Stmt) []api.Stmt { return list(branch(yes(), list(loop(yes(), l...)), nil)) },
		"for, for":            func(l []api.Stmt) []api.Stmt { return list(loop(truth(0)), loop(yes(), l...)) },
		"if, if":              func(l []api.Stmt) []api.Stmt { return list(branch(truth(0), nil, nil), branch(yes(), l, nil)) },
		"for, that is left": func(l []api.Stmt) []api.Stmt {
			return list(loop(yes(), branch(yes(), l, list(statement(api.StReturn, "")))))
		},
	}
}

// filled is a list that has so many statements, those in them among these, with others in front of, or behind it.
func filled(l []api.Stmt, have, want int, behind bool) []api.Stmt {
	for ; have < want; have++ {
		if behind {
			l = append(l, print1())
		} else {
			l = append([]api.Stmt{print1()}, l...)
		}
	}
	return l
}

// statementsOf is how many statements there are in a list.
func statementsOf(l []api.Stmt) int {
	n := len(l)
	for _, s := range l {
		n += statementsOf(s.Body) + statementsOf(s.Else)
	}
	return n
}

func TestMostPoints(t *testing.T) {
	runs := []run{{0, nil}, {api.MaxPoints + 10, nil}}
	for what, nest := range around() {
		each := statementsOf(nest(nil))
		var inner, row []api.Stmt
		n := api.MaxPoints / each
		for range n {
			inner = nest(inner)
			row = append(row, nest(nil)...)
		}
		for _, behind := range []bool{false, true} {
			for shape, l := range map[string][]api.Stmt{"one in another": inner, "in a row": row} {
				x := checked(t, inMain(filled(l, n*each, api.MaxPoints, behind)...))
				if len(x.Points) != api.MaxPoints {
					t.Fatalf("%s, %s: %d points", what, shape, len(x.Points))
				}
				isBuilt(t, x, runs...)
			}
		}
	}
}

// As one that is written: as many ifs, and fors, as a source has room for, and as deep as it may be.
func TestGreatSources(t *testing.T) {
	for _, text := range []string{
		strings.Repeat("if true{}", api.MaxPoints), strings.Repeat("for 1>2{}", api.MaxPoints), strings.Repeat("if 1>2{}for 1>2{}", api.MaxPoints/2),
		strings.Repeat("if true{}else{return;}", api.MaxPoints/2), strings.Repeat("for true{return;}", api.MaxPoints/2),
		strings.Repeat("if 1<2{", api.MaxDepth-1) + "print(3);" + strings.Repeat("}", api.MaxDepth-1),
		strings.Repeat("for 1<2{", api.MaxDepth-1) + "print(3);" + strings.Repeat("}", api.MaxDepth-1),
		"print(" + strings.Repeat("-", api.MaxDepth-1) + "8);", "print(8" + strings.Repeat("-8", api.MaxDepth-1) + ");",
		"print(1" + strings.Repeat("*(2-3", api.MaxDepth/2-1) + strings.Repeat(")", api.MaxDepth/2-1) + ");",
	} {
		isBuilt(t, source(t, "func main(){"+text+"}"), run{0, nil}, run{20, nil}, run{api.MaxPoints + 1, nil})
	}
}

func numbered(s string, i int) string { return s + strconv.Itoa(i) }

// The most functions; main is any one of them.
func TestMostFunctions(t *testing.T) {
	for main := range api.MaxFuncs {
		var p api.Prog
		for i := range api.MaxFuncs {
			d := api.Decl{Name: numbered("f", i), Params: []api.Param{{Name: "n", Type: isInt()}}, Body: []api.Stmt{statement(api.StPrint, "", named("n"))}}
			if i == main {
				d = api.Decl{Name: "main"}
				for k := range api.MaxFuncs {
					if k != main {
						d.Body = append(d.Body, api.Stmt{Kind: api.StCall, Call: numbered("f", k), Kids: []api.Exp{num(int64(k))}})
					}
				}
			}
			p.Funcs = append(p.Funcs, d)
		}
		isBuilt(t, checked(t, p), run{fuel: 999})
	}
}

// The most variables, parameters among them, of the greatest types.
func TestMostVariables(t *testing.T) {
	p := api.Prog{Structs: []api.Struct{{Name: "S"}}}
	for i := range api.MaxFields {
		p.Structs[0].Fields = append(p.Structs[0].Fields, numbered("k", i))
	}
	f := api.Decl{Name: "f"}
	call := api.Stmt{Kind: api.StCall, Call: "f"}
	for i := range api.MaxParams {
		f.Params = append(f.Params, api.Param{Name: numbered("p", i), Type: isInt()})
		call.Kids = append(call.Kids, num(int64(100+i)))
	}
	print := func(x api.Exp) { f.Body = append(f.Body, statement(api.StPrint, "", x)) }
	for i := api.MaxParams; i < api.MaxVars; i++ {
		v := numbered("v", i)
		switch i % 4 {
		case 0:
			f.Body = append(f.Body, declared(v, isInt(), num(int64(i))), statement(api.StInput, v))
			print(named(v))
		case 1:
			f.Body = append(f.Body, declared(v, api.Type{Kind: api.TyBool}, truth(int64(i%3))))
		case 2:
			f.Body = append(f.Body, declared(v, array(api.MaxArray)), statement(api.StElem, v, num(int64(i%16)), num(int64(i))))
			print(elem(v, num(int64(i%16))))
			print(elem(v, num(int64(i%15))))
		case 3:
			f.Body = append(f.Body, declared(v, api.Type{Kind: api.TyStruct, Name: "S"}))
			for k := range api.MaxFields {
				f.Body = append(f.Body, api.Stmt{Kind: api.StField, Name: v, Field: numbered("k", k), Kids: []api.Exp{num(int64(10*i + k))}})
			}
			for k := range api.MaxFields {
				print(field(v, numbered("k", k)))
			}
		}
	}
	for i := range api.MaxParams {
		print(named(numbered("p", i)))
	}
	p.Funcs = []api.Decl{f, {Name: "main", Body: []api.Stmt{call, call}}}
	var in []int64
	for i := range 2 * api.MaxVars {
		in = append(in, int64(-i))
	}
	x := checked(t, p)
	if len(x.Bodies[0].Vars) != api.MaxVars {
		t.Fatalf("%d variables", len(x.Bodies[0].Vars))
	}
	isBuilt(t, x, run{999, in}, run{300, in}, run{999, in[:20]})
}

// So many expressions in a function that there is just room for three instructions of each.
func TestMostExpressions(t *testing.T) {
	const most = api.MaxIns/3 - 12
	for what, nest := range map[string]func(x api.Exp) api.Exp{
		"a sign ahead":   func(x api.Exp) api.Exp { return un("-", x) },
		"the left side":  func(x api.Exp) api.Exp { return bin(x, "+", num(3)) },
		"the right side": func(x api.Exp) api.Exp { return bin(num(3), "-", x) },
		"an index":       func(x api.Exp) api.Exp { return elem("a", x) },
		"both":           func(x api.Exp) api.Exp { return bin(un("-", x), "*", elem("a", num(1))) },
	} {
		x, n := num(1), 1
		for each := expressions(nest(num(0))) - 1; n+each <= most; n += each {
			x = nest(x)
		}
		tree := checked(t, inMain(declared("a", array(2)), statement(api.StElem, "a", num(0), num(1)), statement(api.StElem, "a", num(1), num(-1)), statement(api.StPrint, "", x)))
		u := isBuilt(t, tree, run{fuel: 9})
		if len(u.Funcs[0].Blocks) == 0 {
			t.Error(what)
		}
	}
	x := inMain()
	for i := range api.MaxPoints { // none of them deep in another
		wide := num(1)
		for k := range most/api.MaxPoints/2 - 2 {
			wide = bin(wide, "-", num(int64(i*k)))
		}
		x.Funcs[0].Body = append(x.Funcs[0].Body, statement(api.StPrint, "", wide))
	}
	isBuilt(t, checked(t, x), run{fuel: api.MaxPoints})
}

// R1: of an expression for which no function has room there is no unit that may be, but the call ends.
func TestNoRoom(t *testing.T) {
	x := num(1)
	for range 2 * api.MaxIns {
		x = un("-", x)
	}
	u := build.Program(checked(t, inMain(statement(api.StPrint, "", x))))
	if len(u.Funcs) != 1 {
		t.Errorf("%d functions", len(u.Funcs))
	}
}

// expressions is how many there are in one.
func expressions(x api.Exp) int {
	n := 1
	for _, k := range x.Kids {
		n += expressions(k)
	}
	return n
}
