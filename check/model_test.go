package check_test

import (
	"maps"
	"slices"
	"strings"
	"testing"

	"theodolite/api"
	"theodolite/check"
)

// The chapter's words once more: what is wrong is thrown where it is found, lists are gone through by calls, scopes are maps of which each list has its own, and what fits is looked for among forms that are texts.

// model is of a program what was found so far.
type model struct {
	p      api.Prog
	body   *api.Body
	points []api.Point
}

// scope has the numbers of the variables that are in it.
type scope map[string]int

func need(is bool, e api.Errno) {
	if !is {
		panic(e)
	}
}

// told is what the words say of a program.
func told(p api.Prog) (x api.Tree, n int, e api.Errno) {
	m := &model{p: p}
	defer func() {
		if thrown := recover(); thrown != nil {
			x, e = api.Tree{}, thrown.(api.Errno)
		}
	}()
	for n = range p.Structs {
		m.structure(n)
	}
	for i := range p.Funcs {
		n = len(p.Structs) + i
		x.Bodies = append(x.Bodies, m.function(i))
	}
	n = len(p.Structs) + len(p.Funcs)
	x.Main = slices.IndexFunc(p.Funcs, func(d api.Decl) bool {
		return d.Name == "main" && len(d.Params) == 0 && d.Result.Kind == api.TyNone
	})
	need(x.Main >= 0, api.ErrName)
	n = 0
	need(len(p.Funcs) <= 64 && len(m.points) <= 1000, api.ErrDeep)
	for _, b := range x.Bodies {
		need(len(b.Vars) <= 64, api.ErrDeep)
	}
	x.Points = m.points
	return x, n, api.OK
}

func (m *model) structure(n int) {
	s := m.p.Structs[n]
	for _, other := range m.p.Structs[:n] {
		need(other.Name != s.Name, api.ErrName)
	}
	for i, f := range s.Fields {
		need(!slices.Contains(s.Fields[:i], f), api.ErrName)
	}
	need(len(s.Fields) > 0 && len(s.Fields) < 9, api.ErrType)
}

// fieldsOf are those of a type; none, if it is no struct's.
func (m *model) fieldsOf(k api.Type) []string {
	for _, s := range m.p.Structs {
		if k.Kind == api.TyStruct && s.Name == k.Name {
			return s.Fields
		}
	}
	return nil
}

// kindName is how forms tell the kind of a type.
func kindName(kind uint8) string {
	if kind > api.TyStruct {
		return "strange"
	}
	return strings.Fields("none int bool array struct")[kind]
}

func isOne(k api.Type, kinds string) bool {
	return slices.Contains(strings.Fields(kinds), kindName(k.Kind))
}

func (m *model) function(n int) api.Body {
	d := m.p.Funcs[n]
	for _, other := range m.p.Funcs[:n] {
		need(other.Name != d.Name, api.ErrName)
	}
	types := []api.Type{d.Result}
	for i, p := range d.Params {
		types = append(types, p.Type)
		for _, other := range d.Params[:i] {
			need(other.Name != p.Name, api.ErrName)
		}
	}
	for _, k := range types {
		need(k.Kind != api.TyStruct || m.fieldsOf(k) != nil, api.ErrName)
	}
	need(isOne(d.Result, "none int bool"), api.ErrType)
	for _, k := range types[1:] {
		need(isOne(k, "int bool"), api.ErrType)
	}
	need(len(d.Params) <= 6, api.ErrType)
	m.body = &api.Body{Name: d.Name, Params: len(d.Params), Result: d.Result.Kind != api.TyNone}
	in := scope{}
	for _, p := range d.Params {
		m.declare(in, p.Name, p.Type)
	}
	m.body.Acts = m.list(n, d.Body, in)
	need(!m.body.Result || goesBack(d.Body), api.ErrFlow)
	return *m.body
}

// goesBack: the last statement is a return, or an if of which both lists do so.
func goesBack(l []api.Stmt) bool {
	if len(l) == 0 {
		return false
	}
	s := l[len(l)-1]
	return s.Kind == api.StReturn || s.Kind == api.StIf && goesBack(s.Body) && goesBack(s.Else)
}

func (m *model) declare(in scope, name string, k api.Type) {
	v := api.Var{Name: name, Type: api.Type{Kind: k.Kind}, Words: 1}
	if isOne(k, "array") {
		v.Type.N, v.Words = k.N, k.N
	}
	if isOne(k, "struct") {
		v.Type.Name, v.Fields = k.Name, m.fieldsOf(k)
		v.Words = len(v.Fields)
	}
	in[name] = len(m.body.Vars)
	m.body.Vars = append(m.body.Vars, v)
}

func (m *model) list(n int, l []api.Stmt, around scope) (acts []api.Act) {
	in := maps.Clone(around)
	for _, s := range l {
		acts = append(acts, m.statement(n, s, in))
	}
	return acts
}

// look is the number of what has a name, and the kind of its type, which is one of these.
func (m *model) look(in scope, name, kinds string) (int, string) {
	v, is := in[name]
	need(is, api.ErrName)
	need(isOne(m.body.Vars[v].Type, kinds), api.ErrType)
	return v, kindName(m.body.Vars[v].Type.Kind)
}

func (m *model) lookField(in scope, name, field string) (v, at int) {
	v, _ = m.look(in, name, "struct")
	at = slices.Index(m.body.Vars[v].Fields, field)
	need(at >= 0, api.ErrName)
	return v, at
}

// statementForms are what statements may be, with the kinds of what they have.
const statementForms = "var-int(int) var-bool(bool) var-array() var-struct() set-int(int) set-bool(bool) elem(int,int) field(int) if(bool) for(bool) print(int) input() return-none() return-int(int) return-bool(bool)"

func (m *model) statement(n int, s api.Stmt, in scope) api.Act {
	a := api.Act{Kind: s.Kind, Point: len(m.points), Var: -1, Call: -1}
	m.points = append(m.points, api.Point{Func: n, Line: s.Line, Scope: slices.Sorted(maps.Values(in))})
	forms, form := strings.Fields(statementForms), "of no kind"
	switch s.Kind {
	case api.StVar:
		a.Var = len(m.body.Vars)
		form = "var-" + m.fresh(s)
	case api.StSet:
		a.Var, form = m.look(in, s.Name, "int bool")
		form = "set-" + form
	case api.StElem:
		a.Var, _ = m.look(in, s.Name, "array")
		form = "elem"
	case api.StField:
		a.Var, a.Field = m.lookField(in, s.Name, s.Field)
		form = "field"
	case api.StCall:
		var call string
		a.Var, a.Call, call, form = m.call(in, s)
		forms = append(forms, call)
	case api.StIf:
		form = "if"
	case api.StFor:
		form = "for"
	case api.StPrint:
		form = "print"
	case api.StInput:
		a.Var, _ = m.look(in, s.Name, "int")
		form = "input"
	case api.StReturn:
		form = "return-" + kindName(m.p.Funcs[n].Result.Kind)
	}
	kids, kinds := m.exps(s.Kids, in)
	need(slices.Contains(forms, form+kinds), api.ErrType)
	a.Kids = kids
	switch s.Kind {
	case api.StVar:
		m.declare(in, s.Name, s.Type)
	case api.StIf:
		a.Body = m.list(n, s.Body, in)
		a.Else = m.list(n, s.Else, in)
	case api.StFor:
		a.Body = m.list(n, s.Body, in)
	}
	return a
}

// fresh is the kind of a variable that may be declared.
func (m *model) fresh(s api.Stmt) string {
	for _, v := range m.body.Vars {
		need(v.Name != s.Name, api.ErrName)
	}
	need(!isOne(s.Type, "struct") || m.fieldsOf(s.Type) != nil, api.ErrName)
	need(isOne(s.Type, "int bool array struct"), api.ErrType)
	need(!isOne(s.Type, "array") || s.Type.N >= 1 && s.Type.N <= 16, api.ErrType)
	return kindName(s.Type.Kind)
}

// call is where a call's result goes, what is called, the form that it has to have, and as much of its own as is known ahead of its arguments.
func (m *model) call(in scope, s api.Stmt) (v, n int, form, own string) {
	v, own = -1, "call"
	taken := ""
	if s.Name != "" {
		v, taken = m.look(in, s.Name, "int bool")
		own = taken + " call"
	}
	n = slices.IndexFunc(m.p.Funcs, func(d api.Decl) bool { return d.Name == s.Call })
	need(n >= 0, api.ErrName)
	var kinds []string
	for _, p := range m.p.Funcs[n].Params {
		kinds = append(kinds, kindName(p.Type.Kind))
	}
	form = "call(" + strings.Join(kinds, ",") + ")"
	if s.Name != "" {
		form = kindName(m.p.Funcs[n].Result.Kind) + " " + form
	}
	return v, n, form, own
}

func (m *model) exps(l []api.Exp, in scope) (all []api.Val, kinds string) {
	var names []string
	for _, x := range l {
		v, kind := m.exp(x, in)
		all, names = append(all, v), append(names, kind)
	}
	return all, "(" + strings.Join(names, ",") + ")"
}

// form is what an expression may come to, and its operation.
type form struct {
	op uint8
	is string
}

func expressionForms() map[string]form {
	m := map[string]form{
		"num()": {is: "int"}, "truth()": {is: "bool"}, "int()": {is: "int"}, "bool()": {is: "bool"}, "elem(int)": {is: "int"}, "field()": {is: "int"},
		"un -(int)": {15, "int"}, "un !(bool)": {14, "bool"}, "bin ==(bool,bool)": {6, "bool"}, "bin !=(bool,bool)": {7, "bool"}, "bin &&(bool,bool)": {12, "bool"}, "bin ||(bool,bool)": {13, "bool"},
	}
	for i, s := range strings.Fields("+ - * / % == != < <= > >=") {
		is := "int"
		if i >= 5 {
			is = "bool"
		}
		m["bin "+s+"(int,int)"] = form{uint8(1 + i), is}
	}
	return m
}

var formsOfAll = expressionForms()

func (m *model) exp(x api.Exp, in scope) (v api.Val, kind string) {
	own := "of no kind"
	switch x.Kind {
	case api.ExpNum:
		v.Kind, v.Num, own = api.ValNum, x.Num, "num"
	case api.ExpBool:
		v.Kind, own = api.ValNum, "truth"
		if x.Num != 0 {
			v.Num = 1
		}
	case api.ExpVar:
		v.Kind = api.ValVar
		v.Var, own = m.look(in, x.Name, "int bool")
	case api.ExpElem:
		v.Kind, own = api.ValElem, "elem"
		v.Var, _ = m.look(in, x.Name, "array")
	case api.ExpField:
		v.Kind, own = api.ValField, "field"
		var at int
		v.Var, at = m.lookField(in, x.Name, x.Field)
		v.Num = int64(at)
	case api.ExpUn:
		v.Kind, own = api.ValUn, "un "+x.Op
	case api.ExpBin:
		v.Kind, own = api.ValBin, "bin "+x.Op
	}
	kids, kinds := m.exps(x.Kids, in)
	f, is := formsOfAll[own+kinds]
	need(is, api.ErrType)
	v.Kids, v.Op = kids, f.op
	return v, f.is
}

// isAsTold: of a program what the words say is answered.
func isAsTold(t *testing.T, p api.Prog) api.Errno {
	t.Helper()
	want, wantN, wantErr := told(p)
	x, n, e := check.Program(p)
	if n != wantN || e != wantErr || !same(x, want) {
		t.Fatalf("Program(%s): %s, %d, error %d; want %s, %d, error %d", tell(p), tell(x), n, e, tell(want), wantN, wantErr)
	}
	return e
}
