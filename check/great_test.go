package check_test

import (
	"strconv"
	"testing"

	"theodolite/api"
	"theodolite/check"
)

// R1: there is no bound to how deep a program is nested, nor to how much there is of anything: so deep that calls in calls would not do.

const (
	great    = 1 << 13
	greatest = 1 << 20
)

// nest lays an expression so many times into another one, by one call each, which answers the other one and where it is laid. It answers the outermost one, and the place of the innermost.
func nest(n int, around func() (x api.Exp, in int)) (api.Exp, *api.Exp) {
	outer := api.Exp{}
	hole := &outer
	for range n {
		x, in := around()
		*hole = x
		hole = &x.Kids[in]
	}
	return outer, hole
}

func TestGreatExpressions(t *testing.T) {
	p := source(t, "type T struct { a int; } func main() { var a [2]int; print(1); }")
	for what, around := range map[string]func() (api.Exp, int){
		"a sign ahead":   func() (api.Exp, int) { return un("-", num(1)), 0 },
		"an index":       func() (api.Exp, int) { return elem("a", num(1)), 0 },
		"the left side":  func() (api.Exp, int) { return bin(num(1), "+", num(1)), 0 },
		"the right side": func() (api.Exp, int) { return bin(num(1), "-", num(1)), 1 },
	} {
		size := great
		if what == "a sign ahead" {
			size = greatest
		}
		x, hole := nest(size, around)
		p.Funcs[0].Body[1].Kids[0] = x
		*hole = num(7)
		tree, n, e := check.Program(p)
		if n != 0 || e != api.OK {
			t.Fatalf("%s: %d, error %d", what, n, e)
		}
		depth, v := 0, tree.Bodies[0].Acts[1].Kids[0]
		for ; len(v.Kids) > 0; depth++ {
			_, in := around()
			v = v.Kids[in]
		}
		if depth != size || v.Num != 7 {
			t.Errorf("%s: %d deep, %s", what, depth, tell(v))
		}
		for _, c := range []struct {
			x api.Exp
			e api.Errno
		}{{named("nope"), api.ErrName}, {truth(1), api.ErrType}, {api.Exp{}, api.ErrType}} {
			*hole = c.x
			if x, n, e := check.Program(p); n != 1 || e != c.e || len(x.Bodies) > 0 {
				t.Errorf("%s: %d, error %d, want %d", what, n, e, c.e)
			}
		}
	}
}

// inLists is a list in a list, so many times over: each is of a statement, and, in the other list of an if, or ahead of a for, of a return. It answers the place of the innermost.
func inLists(n int, what string) ([]api.Stmt, *[]api.Stmt) {
	yes := []api.Exp{truth(1)}
	ret := []api.Stmt{{Kind: api.StReturn, Kids: []api.Exp{num(1)}}}
	var outer []api.Stmt
	hole := &outer
	for range n {
		switch what {
		case "for":
			*hole = []api.Stmt{ret[0], {Kind: api.StFor, Kids: yes}}
			hole = &(*hole)[1].Body
		case "if":
			*hole = []api.Stmt{{Kind: api.StIf, Kids: yes, Else: ret}}
			hole = &(*hole)[0].Body
		case "else":
			*hole = []api.Stmt{{Kind: api.StIf, Kids: yes, Body: ret}}
			hole = &(*hole)[0].Else
		}
	}
	return outer, hole
}

func TestGreatStatements(t *testing.T) {
	isInt := api.Type{Kind: api.TyInt}
	one, yes := []api.Exp{num(1)}, []api.Exp{truth(1)}
	ret, none, wrong := api.Stmt{Kind: api.StReturn, Kids: one}, api.Stmt{}, api.Stmt{Kind: api.StPrint, Kids: yes}
	y, setY := api.Stmt{Kind: api.StVar, Name: "y", Type: isInt, Kids: one}, api.Stmt{Kind: api.StSet, Name: "y", Kids: one}
	list := func(l ...api.Stmt) []api.Stmt { return l }
	for what, flow := range map[string]api.Errno{"for": api.ErrFlow, "if": api.ErrDeep, "else": api.ErrDeep} {
		size := great
		if what == "else" {
			size = greatest
		}
		l, hole := inLists(size, what)
		for i, c := range []struct {
			inner, behind []api.Stmt
			e             api.Errno
		}{
			{list(ret), nil, flow}, {nil, nil, api.ErrFlow}, {list(setY), nil, api.ErrName}, {list(y, setY), nil, api.ErrFlow}, {list(y, setY, ret), nil, flow}, {list(y), list(setY, ret), api.ErrName},
			{list(wrong), list(setY), api.ErrType}, {list(ret), list(ret), api.ErrDeep}, {list(none), nil, api.ErrType},
		} {
			if size == greatest && i > 2 {
				break
			}
			*hole = c.inner
			p := api.Prog{Funcs: []api.Decl{{Name: "main"}, {Name: "f", Result: isInt, Body: append(l[:len(l):len(l)], c.behind...)}}}
			wantN := 1
			if c.e == api.ErrDeep {
				wantN = 0
			}
			if x, n, e := check.Program(p); n != wantN || e != c.e || len(x.Bodies) > 0 {
				t.Errorf("%s: %d, error %d, want %d", what, n, e, c.e)
			}
		}
	}
}

// many are so many of a thing, each of them made by its number.
func many[T any](n int, one func(i int) T) (l []T) {
	for i := range n {
		l = append(l, one(i))
	}
	return l
}

func TestGreatLists(t *testing.T) {
	const n = 100000
	numbered := func(i int) string { return "n" + strconv.Itoa(i) }
	newVar := func(i int) api.Stmt {
		return api.Stmt{Kind: api.StVar, Name: numbered(i), Type: api.Type{Kind: api.TyInt}, Kids: []api.Exp{num(1)}}
	}
	main := api.Decl{Name: "main"}
	params := many(n, func(i int) api.Param { return api.Param{Name: numbered(i), Type: api.Type{Kind: api.TyInt}} })
	print1 := func(int) api.Stmt { return api.Stmt{Kind: api.StPrint, Kids: []api.Exp{num(1)}} }
	for what, c := range map[string]struct {
		p api.Prog
		n int
		e api.Errno
	}{
		"structs":        {api.Prog{Structs: many(n, func(i int) api.Struct { return api.Struct{Name: numbered(i), Fields: []string{"a"}} }), Funcs: []api.Decl{main}}, 0, api.OK},
		"structs, none":  {api.Prog{Structs: many(n, func(i int) api.Struct { return api.Struct{Name: numbered(i), Fields: []string{"a"}} })}, n, api.ErrName},
		"the last one":   {api.Prog{Structs: many(n, func(i int) api.Struct { return api.Struct{Name: numbered(i % (n - 1)), Fields: []string{"a"}} })}, n - 1, api.ErrName},
		"fields":         {api.Prog{Structs: []api.Struct{{Name: "T", Fields: many(n, numbered)}}}, 0, api.ErrType},
		"functions":      {api.Prog{Funcs: append(many(n, func(i int) api.Decl { return api.Decl{Name: numbered(i)} }), main)}, 0, api.ErrDeep},
		"no main":        {api.Prog{Funcs: many(n, func(i int) api.Decl { return api.Decl{Name: numbered(i)} })}, n, api.ErrName},
		"parameters":     {api.Prog{Funcs: []api.Decl{main, {Name: "f", Params: params}}}, 1, api.ErrType},
		"of one name":    {api.Prog{Funcs: []api.Decl{main, {Name: "f", Params: append(params[:n:n], params[n-1])}}}, 1, api.ErrName},
		"arguments":      {api.Prog{Funcs: []api.Decl{{Name: "main", Body: []api.Stmt{{Kind: api.StCall, Call: "f", Kids: many(n, func(int) api.Exp { return num(1) })}}}, {Name: "f", Params: params}}}, 1, api.ErrType},
		"kids":           {api.Prog{Funcs: []api.Decl{{Name: "main", Body: []api.Stmt{{Kind: api.StPrint, Kids: many(n, func(int) api.Exp { return num(1) })}}}}}, 0, api.ErrType},
		"statements":     {api.Prog{Funcs: []api.Decl{{Name: "main", Body: many(n, print1)}}}, 0, api.ErrDeep},
		"variables":      {api.Prog{Funcs: []api.Decl{{Name: "main", Body: many(n, newVar)}}}, 0, api.ErrDeep},
		"one of them":    {api.Prog{Funcs: []api.Decl{{Name: "main", Body: append(many(n, newVar), newVar(n/2))}}}, 0, api.ErrName},
		"of many of all": {api.Prog{Funcs: []api.Decl{{Name: "main", Body: many(n, func(i int) api.Stmt { return []api.Stmt{newVar(i), {Kind: api.StIf, Kids: []api.Exp{truth(1)}}}[i%2] })}, {Name: "f", Body: many(n, newVar)}}}, 0, api.ErrDeep},
	} {
		x, at, e := check.Program(c.p)
		if at != c.n || e != c.e || (len(x.Bodies) > 0) != (e == api.OK) {
			t.Errorf("%s: %d, error %d, want %d, error %d", what, at, e, c.n, c.e)
		}
	}
}
