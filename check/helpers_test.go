package check_test

import (
	"fmt"
	"reflect"
	"strings"
	"testing"

	"theodolite/api"
	"theodolite/check"
	"theodolite/syntax"
	"theodolite/token"
)

// source is the program of a text. One longer than a source may be has no remarks, and is all of one line.
func source(t *testing.T, text string) api.Prog {
	t.Helper()
	pieces := []string{text}
	if len(text) > api.MaxSource {
		pieces = strings.Fields(text)
	}
	var all []api.Token
	for _, s := range pieces {
		l, line, e := token.Scan([]byte(s))
		if e != api.OK {
			t.Fatalf("Scan(%s): line %d, error %d", s, line, e)
		}
		all = append(all, l...)
	}
	p, at, e := syntax.Parse(all)
	if e != api.OK {
		t.Fatalf("Parse(%s): %d, error %d", text, at, e)
	}
	return p
}

// What is asked of the call.

// isTree: a program is right, and that is its tree.
func isTree(t *testing.T, p api.Prog, want api.Tree) {
	t.Helper()
	x, n, e := check.Program(p)
	if n != 0 || e != api.OK || !same(x, want) {
		t.Errorf("Program(%s): %s, %d, error %d; want %s", tell(p), tell(x), n, e, tell(want))
	}
}

// isWrong: that is wrong in the declaration of that number, and there is no tree.
func isWrong(t *testing.T, p api.Prog, want int, wantErr api.Errno) {
	t.Helper()
	x, n, e := check.Program(p)
	if n != want || e != wantErr || !reflect.ValueOf(x).IsZero() {
		t.Errorf("Program(%s): %s, %d, error %d; want %d, error %d", tell(p), tell(x), n, e, want, wantErr)
	}
}

// comesTo: a program has that error in the declaration of that number; with OK it has a tree, which is answered.
func comesTo(t *testing.T, p api.Prog, want int, wantErr api.Errno) api.Tree {
	t.Helper()
	if wantErr != api.OK {
		isWrong(t, p, want, wantErr)
		return api.Tree{}
	}
	x, n, e := check.Program(p)
	if n != 0 || e != api.OK || len(x.Bodies) != len(p.Funcs) {
		t.Errorf("Program(%s): %s, %d, error %d; want none", tell(p), tell(x), n, e)
	}
	return x
}

// says is comesTo of a text's program.
func says(t *testing.T, text string, want int, wantErr api.Errno) api.Tree {
	t.Helper()
	return comesTo(t, source(t, text), want, wantErr)
}

// Trees and programs.

// same tells whether two things are the same; lists that are nil and empty are.
func same(a, b any) bool { return sameValue(reflect.ValueOf(a), reflect.ValueOf(b)) }

func sameValue(a, b reflect.Value) bool {
	switch a.Kind() {
	case reflect.Struct:
		for i := range a.NumField() {
			if !sameValue(a.Field(i), b.Field(i)) {
				return false
			}
		}
		return true
	case reflect.Slice:
		if a.Len() != b.Len() {
			return false
		}
		for i := range a.Len() {
			if !sameValue(a.Index(i), b.Index(i)) {
				return false
			}
		}
		return true
	}
	return a.Equal(b)
}

func tell(x any) string {
	s := fmt.Sprintf("%+v", x)
	return s[:min(len(s), 6000)]
}

// copied is a program in memory of its own.
func copied(p api.Prog) api.Prog {
	return copyOf(reflect.ValueOf(p)).Interface().(api.Prog)
}

func copyOf(v reflect.Value) reflect.Value {
	switch v.Kind() {
	case reflect.Struct:
		x := reflect.New(v.Type()).Elem()
		for i := range v.NumField() {
			x.Field(i).Set(copyOf(v.Field(i)))
		}
		return x
	case reflect.Slice:
		if v.Len() == 0 {
			return v
		}
		x := reflect.MakeSlice(v.Type(), v.Len(), v.Len())
		for i := range v.Len() {
			x.Index(i).Set(copyOf(v.Index(i)))
		}
		return x
	}
	return v
}

// Expressions and statements as they were parsed.

func num(n int64) api.Exp { return api.Exp{Kind: api.ExpNum, Num: n} }

func truth(n int64) api.Exp { return api.Exp{Kind: api.ExpBool, Num: n} }

func named(s string) api.Exp { return api.Exp{Kind: api.ExpVar, Name: s} }

func elem(s string, x api.Exp) api.Exp {
	return api.Exp{Kind: api.ExpElem, Name: s, Kids: []api.Exp{x}}
}

func field(s, f string) api.Exp { return api.Exp{Kind: api.ExpField, Name: s, Field: f} }

func un(op string, x api.Exp) api.Exp {
	return api.Exp{Kind: api.ExpUn, Op: op, Kids: []api.Exp{x}}
}

func bin(x api.Exp, op string, y api.Exp) api.Exp {
	return api.Exp{Kind: api.ExpBin, Op: op, Kids: []api.Exp{x, y}}
}

// The same, and statements, as they were checked.

func cnum(n int64) api.Val { return api.Val{Kind: api.ValNum, Num: n} }

func cvar(n int) api.Val { return api.Val{Kind: api.ValVar, Var: n} }

func celem(n int, x api.Val) api.Val {
	return api.Val{Kind: api.ValElem, Var: n, Kids: []api.Val{x}}
}

func cfield(n int, at int64) api.Val { return api.Val{Kind: api.ValField, Var: n, Num: at} }

func cun(op uint8, x api.Val) api.Val {
	return api.Val{Kind: api.ValUn, Op: op, Kids: []api.Val{x}}
}

func cbin(x api.Val, op uint8, y api.Val) api.Val {
	return api.Val{Kind: api.ValBin, Op: op, Kids: []api.Val{x, y}}
}

// act is one of that kind with that point, of that variable (-1: none), that calls nothing.
func act(kind uint8, point, v int, kids ...api.Val) api.Act {
	return api.Act{Kind: kind, Point: point, Var: v, Call: -1, Kids: kids}
}

func cint(name string) api.Var {
	return api.Var{Name: name, Type: api.Type{Kind: api.TyInt}, Words: 1}
}

func cbool(name string) api.Var {
	return api.Var{Name: name, Type: api.Type{Kind: api.TyBool}, Words: 1}
}

func carray(name string, n int) api.Var {
	return api.Var{Name: name, Type: api.Type{Kind: api.TyArray, N: n}, Words: n}
}

func cstruct(name, of string, fields ...string) api.Var {
	return api.Var{Name: name, Type: api.Type{Kind: api.TyStruct, Name: of}, Words: len(fields), Fields: fields}
}

// dice answers numbers below n that look thrown, the same ones each time.
func dice(seed uint64) func(n int) int {
	return func(n int) int {
		seed = seed*6364136223846793005 + 1442695040888963407
		return int(seed >> 33 % uint64(n))
	}
}
