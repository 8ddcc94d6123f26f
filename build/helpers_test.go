package build_test

import (
	"fmt"
	"reflect"
	"testing"

	"theodolite/api"
	"theodolite/build"
	"theodolite/check"
	"theodolite/syntax"
	"theodolite/token"
)

// source is the tree of a text.
func source(t *testing.T, text string) api.Tree {
	t.Helper()
	l, line, e := token.Scan([]byte(text))
	if e != api.OK {
		t.Fatalf("Scan(%s): line %d, error %d", text, line, e)
	}
	p, at, e := syntax.Parse(l)
	if e != api.OK {
		t.Fatalf("Parse(%s): %d, error %d", text, at, e)
	}
	return checked(t, p)
}

// checked is the tree of a program.
func checked(t *testing.T, p api.Prog) api.Tree {
	t.Helper()
	x, n, e := check.Program(p)
	if e != api.OK {
		t.Fatalf("Program(%s): %d, error %d", tell(p), n, e)
	}
	return x
}

// run is with which inputs, and with how much fuel, a trace is asked for.
type run struct {
	fuel int
	in   []int64
}

// isBuilt: the unit of a tree is as the chapter says, and says what the tree says at these runs.
func isBuilt(t *testing.T, x api.Tree, runs ...run) api.Unit {
	t.Helper()
	u := build.Program(x)
	if s := wrong(x, u); s != "" {
		t.Fatalf("Program(%s): %s: %s", tell(x), s, tell(u))
	}
	for _, r := range runs {
		if got, want := traceOfUnit(u, r), traceOfTree(x, r); got != want {
			t.Fatalf("Program(%s): %s: its trace, inputs %d, fuel %d: %s, want %s", tell(x), tell(u), r.in, r.fuel, end(got), end(want))
		}
	}
	return u
}

// end is the end of a text that may be long.
func end(s string) string { return s[max(0, len(s)-2000):] }

// same tells whether two things are the same; lists that are nil and empty are.
func same(a, b any) bool { return sameValue(reflect.ValueOf(a), reflect.ValueOf(b)) }

func sameValue(a, b reflect.Value) bool {
	switch a.Kind() {
	case reflect.Struct:
		for i := range a.NumField() {
			if !sameValue(a.Field(i), b.Field(i)) {
				return false
			}
		}
		return true
	case reflect.Slice:
		if a.Len() != b.Len() {
			return false
		}
		for i := range a.Len() {
			if !sameValue(a.Index(i), b.Index(i)) {
				return false
			}
		}
		return true
	}
	return a.Equal(b)
}

// tell is a thing as a text, if it is no great one.
func tell(x any) string {
	if size(reflect.ValueOf(x)) > 3000 {
		return "a great " + reflect.TypeOf(x).Name()
	}
	return fmt.Sprintf("%+v", x)
}

// size is about how many things stand in one.
func size(v reflect.Value) int {
	n := 1
	switch v.Kind() {
	case reflect.Struct:
		for i := range v.NumField() {
			n += size(v.Field(i))
		}
	case reflect.Slice:
		for i := range v.Len() {
			n += size(v.Index(i))
		}
	}
	return n
}

// Programs as they were parsed.

func num(n int64) api.Exp { return api.Exp{Kind: api.ExpNum, Num: n} }

func truth(n int64) api.Exp { return api.Exp{Kind: api.ExpBool, Num: n} }

func named(s string) api.Exp { return api.Exp{Kind: api.ExpVar, Name: s} }

func elem(s string, x api.Exp) api.Exp {
	return api.Exp{Kind: api.ExpElem, Name: s, Kids: []api.Exp{x}}
}

func field(s, f string) api.Exp { return api.Exp{Kind: api.ExpField, Name: s, Field: f} }

func un(op string, x api.Exp) api.Exp {
	return api.Exp{Kind: api.ExpUn, Op: op, Kids: []api.Exp{x}}
}

func bin(x api.Exp, op string, y api.Exp) api.Exp {
	return api.Exp{Kind: api.ExpBin, Op: op, Kids: []api.Exp{x, y}}
}

// statement is one with these values.
func statement(kind uint8, name string, kids ...api.Exp) api.Stmt {
	return api.Stmt{Kind: kind, Name: name, Kids: kids}
}

// declared is a var statement.
func declared(name string, k api.Type, kids ...api.Exp) api.Stmt {
	return api.Stmt{Kind: api.StVar, Name: name, Type: k, Kids: kids}
}

func branch(x api.Exp, body, behind []api.Stmt) api.Stmt {
	return api.Stmt{Kind: api.StIf, Kids: []api.Exp{x}, Body: body, Else: behind}
}

func loop(x api.Exp, body ...api.Stmt) api.Stmt {
	return api.Stmt{Kind: api.StFor, Kids: []api.Exp{x}, Body: body}
}

func array(n int) api.Type { return api.Type{Kind: api.TyArray, N: n} }

// isInt is the type of ints.
func isInt() api.Type { return api.Type{Kind: api.TyInt} }

// inMain is a program of one function with these statements.
func inMain(l ...api.Stmt) api.Prog {
	return api.Prog{Funcs: []api.Decl{{Name: "main", Body: l}}}
}

// dice answers numbers below n that look thrown, the same ones each time.
func dice(seed uint64) func(n int) int {
	return func(n int) int {
		seed = seed*6364136223846793005 + 1442695040888963407
		return int(seed >> 33 % uint64(n))
	}
}
