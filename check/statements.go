package check

import (
	"slices"

	"theodolite/api"
)

// statement checks one, and lays what it is. Of an if or a for it opens the lists.
func (f *function) statement(s *api.Stmt, a *api.Act) api.Errno {
	*a = api.Act{Kind: s.Kind, Point: f.point(s.Line), Var: -1, Call: -1}
	if e := f.target(s, a); e != api.OK {
		return e
	}
	kids, kinds, e := f.values(s.Kids)
	if e != api.OK {
		return e
	}
	if !f.fits(s, a, kinds) {
		return api.ErrType
	}
	a.Kids = kids
	switch s.Kind {
	case api.StVar: // behind its value, in which it is not in scope
		a.Var = f.declare(s.Name, s.Type)
	case api.StIf:
		a.Else = f.enter(s.Else)
		a.Body = f.enter(s.Body) // the innermost one, as it goes ahead
	case api.StFor:
		a.Body = f.enter(s.Body)
	}
	return api.OK
}

// target looks at what a statement names ahead of its values, and lays their numbers.
func (f *function) target(s *api.Stmt, a *api.Act) (e api.Errno) {
	switch s.Kind {
	case api.StVar:
		e = f.fresh(s.Name, s.Type)
	case api.StSet:
		a.Var, e = f.find(s.Name, api.TyInt, api.TyBool)
	case api.StElem:
		a.Var, e = f.find(s.Name, api.TyArray)
	case api.StField:
		a.Var, a.Field, e = f.findField(s.Name, s.Field)
	case api.StInput:
		a.Var, e = f.find(s.Name, api.TyInt)
	case api.StCall:
		e = f.called(s, a)
	}
	return e
}

// fresh tells what is wrong with a variable that is to be declared.
func (f *function) fresh(name string, t api.Type) api.Errno {
	if _, is := f.named[name]; is || !f.isThere(t) {
		return api.ErrName
	}
	if !mayBe(t) {
		return api.ErrType
	}
	return api.OK
}

// called looks at where the result of a call goes, and at which function is called.
func (f *function) called(s *api.Stmt, a *api.Act) (e api.Errno) {
	if s.Name != "" {
		a.Var, e = f.find(s.Name, api.TyInt, api.TyBool)
		if e != api.OK {
			return e
		}
	}
	n, is := f.funcs[s.Call]
	if !is {
		return api.ErrName
	}
	a.Call = n
	return api.OK
}

// fits tells whether a statement has as many values as it has to, of the types of which they have to be.
func (f *function) fits(s *api.Stmt, a *api.Act, kinds []uint8) bool {
	switch s.Kind {
	case api.StVar:
		if isScalar(s.Type) {
			return are(kinds, s.Type.Kind)
		}
		return are(kinds)
	case api.StSet:
		return are(kinds, f.kindOf(a.Var))
	case api.StElem:
		return are(kinds, api.TyInt, api.TyInt)
	case api.StField, api.StPrint:
		return are(kinds, api.TyInt)
	case api.StCall:
		return f.fitsCall(a, kinds)
	case api.StIf, api.StFor:
		return are(kinds, api.TyBool)
	case api.StInput:
		return are(kinds)
	case api.StReturn:
		if f.result != api.TyNone {
			return are(kinds, f.result)
		}
		return are(kinds)
	}
	return false
}

// fitsCall tells whether a function takes arguments of such types, and gives what the call takes.
func (f *function) fitsCall(a *api.Act, kinds []uint8) bool {
	d := &f.prog.Funcs[a.Call]
	if a.Var >= 0 && d.Result.Kind != f.kindOf(a.Var) {
		return false
	}
	return slices.EqualFunc(kinds, d.Params, func(kind uint8, p api.Param) bool { return kind == p.Type.Kind })
}

// are tells whether kinds are those that are wanted.
func are(kinds []uint8, wanted ...uint8) bool { return slices.Equal(kinds, wanted) }
