package check_test

import (
	"slices"
	"strconv"
	"testing"

	"theodolite/api"
)

// maker makes programs that look thrown, and of which nothing is wrong.
type maker struct {
	next  func(n int) int
	p     api.Prog
	vars  []api.Param // those in scope of the function that is made
	count int         // how many it has had
	result,
	line int
}

func made(next func(n int) int) api.Prog {
	m := &maker{next: next}
	for i := range next(3) {
		s := api.Struct{Name: "T" + strconv.Itoa(i)}
		for k := range 1 + next(4) {
			s.Fields = append(s.Fields, "f"+strconv.Itoa(k+i))
		}
		m.p.Structs = append(m.p.Structs, s)
	}
	n := 1 + next(4)
	main := next(n)
	for i := range n {
		d := api.Decl{Name: "g" + strconv.Itoa(i), Line: i}
		if i == main {
			d.Name = "main"
		} else {
			for k := range next(4) {
				d.Params = append(d.Params, api.Param{Name: "p" + strconv.Itoa(k), Type: m.scalar()})
			}
			d.Result = []api.Type{{}, m.scalar()}[next(2)]
		}
		m.p.Funcs = append(m.p.Funcs, d)
	}
	for i := range m.p.Funcs {
		d := &m.p.Funcs[i]
		m.vars, m.count, m.result = slices.Clone(d.Params), 0, int(d.Result.Kind)
		d.Body = m.list(4, 5)
		if m.result != 0 {
			d.Body = append(d.Body, m.back(2))
		}
	}
	return m.p
}

func (m *maker) scalar() api.Type { return api.Type{Kind: uint8(1 + m.next(2))} }

// anyType is one of which a variable may be.
func (m *maker) anyType() api.Type {
	switch k := m.next(5); {
	case k == 3:
		return api.Type{Kind: api.TyArray, N: 1 + m.next(16)}
	case k == 4 && len(m.p.Structs) > 0:
		return api.Type{Kind: api.TyStruct, Name: m.p.Structs[m.next(len(m.p.Structs))].Name}
	}
	return m.scalar()
}

// one is a variable in scope of a kind, if there is one.
func (m *maker) one(kind uint8) (api.Param, bool) {
	var l []api.Param
	for _, v := range m.vars {
		if v.Type.Kind == kind {
			l = append(l, v)
		}
	}
	if len(l) == 0 {
		return api.Param{}, false
	}
	return l[m.next(len(l))], true
}

// fieldOf is a field of a struct's variable.
func (m *maker) fieldOf(v api.Param) string {
	i := slices.IndexFunc(m.p.Structs, func(s api.Struct) bool { return s.Name == v.Type.Name })
	return m.p.Structs[i].Fields[m.next(len(m.p.Structs[i].Fields))]
}

func (m *maker) exp(kind uint8, deep int) api.Exp {
	pick := m.next(7)
	if deep <= 0 {
		pick %= 4
	}
	if v, is := m.one(kind); is && pick < 2 {
		return named(v.Name)
	}
	if kind == api.TyBool {
		switch pick {
		case 4:
			return un("!", m.exp(api.TyBool, deep-1))
		case 5:
			sign := []string{"&&", "||", "==", "!="}[m.next(4)]
			return bin(m.exp(api.TyBool, deep-1), sign, m.exp(api.TyBool, deep-1))
		case 6:
			sign := []string{"<", "<=", ">", ">=", "==", "!="}[m.next(6)]
			return bin(m.exp(api.TyInt, deep-1), sign, m.exp(api.TyInt, deep-1))
		}
		return truth(int64(m.next(4) - 1))
	}
	switch pick {
	case 2:
		if v, is := m.one(api.TyStruct); is {
			return field(v.Name, m.fieldOf(v))
		}
	case 3, 4:
		if v, is := m.one(api.TyArray); is {
			return elem(v.Name, m.exp(api.TyInt, deep-1))
		}
	case 5:
		return un("-", m.exp(api.TyInt, deep-1))
	case 6:
		sign := []string{"+", "-", "*", "/", "%"}[m.next(5)]
		return bin(m.exp(api.TyInt, deep-1), sign, m.exp(api.TyInt, deep-1))
	}
	return num(int64(m.next(20) - 5))
}

// list is one of statements with a scope of its own.
func (m *maker) list(deep, most int) (l []api.Stmt) {
	around := len(m.vars)
	for range m.next(most + 1) {
		l = append(l, m.statement(deep))
	}
	m.vars = m.vars[:around]
	return l
}

// back is a statement that returns.
func (m *maker) back(deep int) api.Stmt {
	if deep == 0 || m.next(3) > 0 {
		return api.Stmt{Kind: api.StReturn, Line: m.lineOf(), Kids: []api.Exp{m.exp(uint8(m.result), 2)}}
	}
	s := api.Stmt{Kind: api.StIf, Line: m.lineOf(), Kids: []api.Exp{m.exp(api.TyBool, 1)}}
	s.Body = append(m.list(1, 2), m.back(deep-1))
	s.Else = append(m.list(1, 2), m.back(deep-1))
	return s
}

func (m *maker) lineOf() int {
	m.line += m.next(3)
	return m.line
}

func (m *maker) statement(deep int) api.Stmt {
	s := api.Stmt{Kind: uint8(1 + m.next(10)), Line: m.lineOf()}
	if deep <= 0 && (s.Kind == api.StIf || s.Kind == api.StFor) {
		s.Kind = api.StPrint
	}
	value := func(kind uint8) { s.Kids = append(s.Kids, m.exp(kind, m.next(4))) }
	v, is := m.one([]uint8{api.StSet: uint8(1 + m.next(2)), api.StElem: api.TyArray, api.StField: api.TyStruct, api.StInput: api.TyInt, 10: 0}[s.Kind])
	switch s.Kind {
	case api.StSet, api.StElem, api.StField, api.StInput:
		if !is {
			s.Kind = api.StVar
		}
		s.Name = v.Name
	}
	switch s.Kind {
	case api.StVar:
		s.Name, s.Type = "v"+strconv.Itoa(m.count), m.anyType()
		m.count++
		if s.Type.Kind <= api.TyBool {
			value(s.Type.Kind)
		}
		m.vars = append(m.vars, api.Param{Name: s.Name, Type: s.Type})
	case api.StSet:
		value(v.Type.Kind)
	case api.StElem:
		value(api.TyInt)
		value(api.TyInt)
	case api.StField:
		s.Field = m.fieldOf(v)
		value(api.TyInt)
	case api.StCall:
		d := m.p.Funcs[m.next(len(m.p.Funcs))]
		s.Call = d.Name
		for _, p := range d.Params {
			value(p.Type.Kind)
		}
		if v, is := m.one(d.Result.Kind); is && m.next(3) > 0 {
			s.Name = v.Name
		}
	case api.StIf:
		value(api.TyBool)
		s.Body, s.Else = m.list(deep-1, 3), m.list(deep-1, 3)
	case api.StFor:
		value(api.TyBool)
		s.Body = m.list(deep-1, 3)
	case api.StPrint:
		value(api.TyInt)
	case api.StReturn:
		if m.result != 0 {
			value(uint8(m.result))
		}
	}
	return s
}

func TestProgramsThatAreRight(t *testing.T) {
	next := dice(1)
	points, vars := 0, 0
	for range 4000 {
		p := made(next)
		if e := isAsTold(t, p); e != api.OK {
			t.Fatalf("%s: error %d", tell(p), e)
		}
		x := comesTo(t, p, 0, api.OK)
		points = max(points, len(x.Points))
		vars = max(vars, len(x.Bodies[0].Vars))
	}
	if points < 60 || vars < 12 {
		t.Errorf("at most %d points, %d variables of one", points, vars)
	}
}

// Faults

// spoiler turns single things of a program.
type spoiler struct {
	next func(n int) int
	p    *api.Prog
}

func (s spoiler) name() string {
	return []string{"v0", "v1", "v2", "v3", "p0", "p1", "T0", "T1", "g0", "g1", "main", "f0", "f1", "", "nope"}[s.next(15)]
}

func (s spoiler) kind() api.Type {
	k := api.Type{Kind: uint8(s.next(6)), N: s.next(19) - 1}
	if s.next(2) > 0 {
		k.Name = s.name()
	}
	return k
}

func (s spoiler) sign() string {
	return []string{"+", "-", "*", "/", "%", "==", "!=", "<", "<=", ">", ">=", "&&", "||", "!", "", "="}[s.next(16)]
}

func (s spoiler) leaf() api.Exp {
	return []api.Exp{num(3), truth(1), named(s.name()), elem(s.name(), num(1)), field(s.name(), s.name()), {Kind: uint8(s.next(10))}}[s.next(6)]
}

// kids turns one of a list of expressions, takes it away, or adds one.
func (s spoiler) kids(l *[]api.Exp) {
	at := s.next(len(*l) + 1)
	switch {
	case s.next(2) == 0 || at == len(*l):
		*l = slices.Insert(*l, at, s.leaf())
	case s.next(2) == 0:
		*l = slices.Delete(*l, at, at+1)
	default:
		(*l)[at] = s.leaf()
	}
}

func (s spoiler) exp(x *api.Exp) {
	switch s.next(7) {
	case 0:
		x.Kind = uint8(s.next(9))
	case 1, 2:
		x.Name = s.name()
	case 3:
		x.Field = s.name()
	case 4:
		x.Op = s.sign()
	case 5:
		s.kids(&x.Kids)
	case 6:
		*x = s.leaf()
	}
}

func (s spoiler) statement(x *api.Stmt) {
	switch s.next(8) {
	case 0:
		x.Kind = uint8(s.next(12))
	case 1, 2:
		x.Name = s.name()
	case 3:
		x.Field = s.name()
	case 4:
		x.Call = s.name()
	case 5:
		x.Type = s.kind()
	case 6:
		s.kids(&x.Kids)
	case 7:
		x.Body, x.Else = x.Else, x.Body
	}
}

// list turns the order of one of the lists of statements, takes one away, or lays one in once more.
func (s spoiler) list(l *[]api.Stmt) {
	if len(*l) == 0 {
		return
	}
	i, k := s.next(len(*l)), s.next(len(*l))
	switch s.next(3) {
	case 0:
		(*l)[i], (*l)[k] = (*l)[k], (*l)[i]
	case 1:
		*l = slices.Delete(*l, i, i+1)
	case 2:
		*l = slices.Insert(*l, i, (*l)[k])
	}
}

func (s spoiler) header(d *api.Decl) {
	switch s.next(5) {
	case 0:
		d.Name = s.name()
	case 1:
		d.Result = s.kind()
	case 2:
		d.Params = append(d.Params, api.Param{Name: s.name(), Type: s.kind()})
	case 3:
		if len(d.Params) > 0 {
			d.Params[s.next(len(d.Params))].Type = s.kind()
		}
	case 4:
		if len(d.Params) > 0 {
			d.Params[s.next(len(d.Params))].Name = s.name()
		}
	}
}

func (s spoiler) structure(x *api.Struct) {
	switch s.next(3) {
	case 0:
		x.Name = s.name()
	case 1:
		x.Fields = append(x.Fields, s.name())
	case 2:
		x.Fields = x.Fields[:s.next(len(x.Fields)+1)]
	}
}

func (s spoiler) turn() {
	p := s.p
	d := &p.Funcs[s.next(len(p.Funcs))]
	all := statements(p)
	switch k := s.next(20); {
	case k < 8:
		if l := expressions(p); len(l) > 0 {
			s.exp(l[s.next(len(l))])
		}
	case k < 15 && len(all) > 0:
		s.statement(all[s.next(len(all))])
	case k < 17 && len(all) > 0:
		x := all[s.next(len(all))]
		s.list([]*[]api.Stmt{&x.Body, &x.Else, &d.Body}[s.next(3)])
	case k == 17:
		s.header(d)
	case k == 18 && len(p.Structs) > 0:
		s.structure(&p.Structs[s.next(len(p.Structs))])
	default:
		s.list(&d.Body)
	}
}

func TestProgramsThatAreSpoilt(t *testing.T) {
	next := dice(2)
	seen := map[api.Errno]int{}
	for i := range 60000 {
		p := copied(made(next))
		s := spoiler{next: next, p: &p}
		for range 1 + i%4 {
			s.turn()
		}
		seen[isAsTold(t, copied(p))]++
	}
	if seen[api.OK] < 5000 || seen[api.ErrName] < 5000 || seen[api.ErrType] < 5000 || seen[api.ErrFlow] < 500 || len(seen) != 4 {
		t.Errorf("%v came", seen)
	}
}

// Programs about as great as they may be.
func TestProgramsThatAreGreat(t *testing.T) {
	next := dice(3)
	seen := map[api.Errno]int{}
	for i := range 300 {
		p := copied(made(next))
		main := &p.Funcs[slices.IndexFunc(p.Funcs, func(d api.Decl) bool { return d.Name == "main" })]
		points := len(statements(&p))
		switch i % 3 {
		case 0:
			for points += next(3) - 1; points < api.MaxPoints; points++ {
				main.Body = append(main.Body, api.Stmt{Kind: api.StReturn, Line: points})
			}
		case 1:
			vars := varsOf(main)
			for vars += next(3) - 1; vars < api.MaxVars; vars++ {
				main.Body = append(main.Body, api.Stmt{Kind: api.StVar, Name: "w" + strconv.Itoa(vars), Type: api.Type{Kind: api.TyArray, N: 2}})
			}
		case 2:
			for n := len(p.Funcs) + next(3) - 1; n < api.MaxFuncs; n++ {
				p.Funcs = append(p.Funcs, api.Decl{Name: "w" + strconv.Itoa(n)})
			}
		}
		seen[isAsTold(t, p)]++
	}
	if seen[api.OK] < 100 || seen[api.ErrDeep] < 60 {
		t.Errorf("%v came", seen)
	}
}

// varsOf is how many variables a function has.
func varsOf(d *api.Decl) int {
	n := len(d.Params)
	for _, s := range statements(&api.Prog{Funcs: []api.Decl{*d}}) {
		if s.Kind == api.StVar {
			n++
		}
	}
	return n
}
