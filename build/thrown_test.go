package build_test

import (
	"slices"
	"strconv"
	"strings"
	"testing"

	"theodolite/api"
)

// maker makes programs that look thrown, of which nothing is wrong, and most of which go on for long.
type maker struct {
	next  func(n int) int
	p     api.Prog
	vars  []api.Param // those in scope of the function that is made
	count int         // how many it has had
	back  uint8       // the kind of what it gives back
}

func made(next func(n int) int) api.Prog {
	m := &maker{next: next}
	for i := range next(3) {
		s := api.Struct{Name: "T" + strconv.Itoa(i)}
		for k := range 1 + next(4) {
			s.Fields = append(s.Fields, "f"+strconv.Itoa(k+i))
		}
		m.p.Structs = append(m.p.Structs, s)
	}
	n := 1 + next(5)
	main := next(n)
	for i := range n {
		d := api.Decl{Name: "g" + strconv.Itoa(i), Line: i}
		if i == main {
			d.Name = "main"
		} else {
			for k := range next(api.MaxParams + 1) {
				d.Params = append(d.Params, api.Param{Name: "p" + strconv.Itoa(k), Type: m.scalar()})
			}
			d.Result = []api.Type{{}, m.scalar()}[next(2)]
		}
		m.p.Funcs = append(m.p.Funcs, d)
	}
	for i := range m.p.Funcs {
		d := &m.p.Funcs[i]
		m.vars, m.count, m.back = slices.Clone(d.Params), 0, d.Result.Kind
		d.Body = m.list(4, 4+m.next(10))
		if m.back != api.TyNone {
			d.Body = append(d.Body, m.ending(2))
		}
	}
	return m.p
}

func (m *maker) scalar() api.Type { return api.Type{Kind: uint8(1 + m.next(2))} }

// anyType is one of which a variable may be.
func (m *maker) anyType() api.Type {
	switch k := m.next(6); {
	case k == 4:
		return array(1 + m.next(api.MaxArray))
	case k == 5 && len(m.p.Structs) > 0:
		return api.Type{Kind: api.TyStruct, Name: m.p.Structs[m.next(len(m.p.Structs))].Name}
	}
	return m.scalar()
}

// one is a variable in scope of a kind, if there is one.
func (m *maker) one(kind uint8) (api.Param, bool) {
	var l []api.Param
	for _, v := range m.vars {
		if v.Type.Kind == kind {
			l = append(l, v)
		}
	}
	if len(l) == 0 {
		return api.Param{}, false
	}
	return l[m.next(len(l))], true
}

// fieldOf is a field of a struct's variable.
func (m *maker) fieldOf(v api.Param) string {
	i := slices.IndexFunc(m.p.Structs, func(s api.Struct) bool { return s.Name == v.Type.Name })
	return m.p.Structs[i].Fields[m.next(len(m.p.Structs[i].Fields))]
}

// index is mostly one that an array has.
func (m *maker) index(v api.Param, deep int) api.Exp {
	if m.next(4) == 0 {
		return m.exp(api.TyInt, deep)
	}
	return num(int64(m.next(v.Type.N)))
}

// exp is an expression of a kind.
func (m *maker) exp(kind uint8, deep int) api.Exp {
	pick := m.next(7)
	if deep <= 0 {
		pick %= 4
	}
	if v, is := m.one(kind); is && pick < 2 {
		return named(v.Name)
	}
	if kind == api.TyBool {
		return m.boolean(pick, deep)
	}
	switch pick {
	case 2:
		if v, is := m.one(api.TyStruct); is {
			return field(v.Name, m.fieldOf(v))
		}
	case 3, 4:
		if v, is := m.one(api.TyArray); is {
			return elem(v.Name, m.index(v, deep-1))
		}
	case 5:
		return un("-", m.exp(api.TyInt, deep-1))
	case 6:
		sign := []string{"+", "-", "*", "/", "%"}[m.next(5)]
		if (sign == "/" || sign == "%") && m.next(2) > 0 {
			return bin(m.exp(api.TyInt, deep-1), sign, num(int64(1+m.next(5))))
		}
		return bin(m.exp(api.TyInt, deep-1), sign, m.exp(api.TyInt, deep-1))
	}
	return num(int64(m.next(20) - 5))
}

func (m *maker) boolean(pick, deep int) api.Exp {
	switch pick {
	case 4:
		return un("!", m.exp(api.TyBool, deep-1))
	case 5:
		sign := []string{"&&", "||", "==", "!="}[m.next(4)]
		return bin(m.exp(api.TyBool, deep-1), sign, m.exp(api.TyBool, deep-1))
	case 3, 6:
		sign := []string{"<", "<=", ">", ">=", "==", "!="}[m.next(6)]
		return bin(m.exp(api.TyInt, deep-1), sign, m.exp(api.TyInt, deep-1))
	}
	return truth(int64(m.next(2)))
}

// list is one of statements with a scope of its own.
func (m *maker) list(deep, most int) (l []api.Stmt) {
	around := len(m.vars)
	for range most/3 + m.next(most+1-most/3) {
		l = append(l, m.statement(deep))
	}
	m.vars = m.vars[:around]
	return l
}

// ending is a statement behind which there is no way on.
func (m *maker) ending(deep int) api.Stmt {
	if deep == 0 || m.next(3) > 0 {
		if m.back == api.TyNone {
			return statement(api.StReturn, "")
		}
		return statement(api.StReturn, "", m.exp(m.back, 2))
	}
	return branch(m.exp(api.TyBool, 1), append(m.list(1, 2), m.ending(deep-1)), append(m.list(1, 2), m.ending(deep-1)))
}

func (m *maker) statement(deep int) api.Stmt {
	value := func(kind uint8) api.Exp { return m.exp(kind, m.next(4)) }
	switch pick := m.next(16); {
	case pick < 3:
		return m.set(value)
	case pick < 4:
		if v, is := m.one(api.TyArray); is {
			return statement(api.StElem, v.Name, m.index(v, 2), value(api.TyInt))
		}
	case pick < 5:
		if v, is := m.one(api.TyStruct); is {
			return api.Stmt{Kind: api.StField, Name: v.Name, Field: m.fieldOf(v), Kids: []api.Exp{value(api.TyInt)}}
		}
	case pick < 7:
		return m.call(value)
	case pick < 9 && deep > 0:
		return branch(value(api.TyBool), m.list(deep-1, 3), m.list(deep-1, 3))
	case pick < 11 && deep > 0:
		return loop(value(api.TyBool), m.list(deep-1, 4)...)
	case pick < 12:
		if v, is := m.one(api.TyInt); is {
			return statement(api.StInput, v.Name)
		}
	case pick < 13:
		return statement(api.StPrint, "", value(api.TyInt))
	case pick < 14 && m.next(6) == 0:
		return m.ending(min(deep, 1))
	}
	return m.declare(value)
}

func (m *maker) declare(value func(kind uint8) api.Exp) api.Stmt {
	v := api.Param{Name: "v" + strconv.Itoa(m.count), Type: m.anyType()}
	m.count++
	s := declared(v.Name, v.Type)
	if v.Type.Kind == api.TyInt || v.Type.Kind == api.TyBool {
		s.Kids = []api.Exp{value(v.Type.Kind)}
	}
	m.vars = append(m.vars, v)
	return s
}

func (m *maker) set(value func(kind uint8) api.Exp) api.Stmt {
	k := m.scalar().Kind
	v, is := m.one(k)
	if !is {
		return m.declare(value)
	}
	return statement(api.StSet, v.Name, value(k))
}

func (m *maker) call(value func(kind uint8) api.Exp) api.Stmt {
	d := m.p.Funcs[m.next(len(m.p.Funcs))]
	if d.Name == "main" { // seldom, as it is about endless
		d = m.p.Funcs[m.next(len(m.p.Funcs))]
	}
	s := api.Stmt{Kind: api.StCall, Call: d.Name}
	for _, p := range d.Params {
		s.Kids = append(s.Kids, value(p.Type.Kind))
	}
	if v, is := m.one(d.Result.Kind); is && m.next(4) > 0 {
		s.Name = v.Name
	}
	return s
}

func TestThrownPrograms(t *testing.T) {
	next := dice(1)
	ends := map[byte]int{}
	var long, called, skipped int
	for range 6000 {
		x := checked(t, made(next))
		var in []int64
		for range next(12) {
			in = append(in, int64(next(9)-3))
		}
		r := run{400, in}
		u := isBuilt(t, x, r, run{next(20), in}, run{next(200), nil})
		s := traceOfUnit(u, r)
		ends[s[len(s)-1]]++
		if strings.Count(s, "M") >= 30 {
			long++
		}
		if strings.Contains(s, "B") {
			called++
		}
		if marks(u) < len(x.Points) {
			skipped++
		}
	}
	for _, end := range "HDXIF" {
		if ends[byte(end)] < 100 {
			t.Errorf("%v ended so", ends)
		}
	}
	if long < 1500 || called < 600 || skipped < 1000 {
		t.Errorf("%d were long, %d called, in %d no way led to a point", long, called, skipped)
	}
}

// marks is how many there are.
func marks(u api.Unit) (n int) {
	for _, f := range u.Funcs {
		for _, b := range f.Blocks {
			for _, i := range b.Ins {
				if i.Op == api.InsMark {
					n++
				}
			}
		}
	}
	return n
}
