package check

import (
	"slices"

	"theodolite/api"
)

// function is one whose statements are gone through.
type function struct {
	*checker
	number int
	result uint8 // the kind of what it gives back
	vars   []api.Var
	named  map[string]int // the numbers of its variables, those too that are out of scope
	scope  []int          // the variables that are in scope, rising
	open   []*list        // the lists of statements that still go on, one in the other
}

// list is a list of statements that still goes on.
type list struct {
	rest  []api.Stmt // what was not gone through yet
	acts  []api.Act  // where that is to be laid
	scope int        // how many variables are in scope around it
}

func newFunction(c *checker, number int, d api.Decl) *function {
	f := &function{checker: c, number: number, result: d.Result.Kind, named: map[string]int{}}
	for _, p := range d.Params {
		f.declare(p.Name, p.Type)
	}
	return f
}

// declare numbers one more variable, which is in scope from here on, and answers its number.
func (f *function) declare(name string, t api.Type) int {
	n := len(f.vars)
	f.vars = append(f.vars, f.variable(name, t))
	f.named[name] = n
	f.scope = append(f.scope, n)
	f.great = f.great || len(f.vars) > api.MaxVars
	return n
}

// point numbers one more statement. Where there is too much already it is not kept: scopes without a bound could be more than all that was handed in.
func (f *function) point(line int) int {
	n := f.points
	f.points++
	f.great = f.great || f.points > api.MaxPoints
	if !f.great {
		f.tree.Points = append(f.tree.Points, api.Point{Func: f.number, Line: line, Scope: append([]int(nil), f.scope...)})
	}
	return n
}

// body goes through a function's statements, and answers what they are. The lists that go on wait in a list, not in calls, as there is no bound to how deep one stands in another.
func (f *function) body(l []api.Stmt) ([]api.Act, api.Errno) {
	acts := f.enter(l)
	for len(f.open) > 0 {
		if e := f.onward(); e != api.OK {
			return nil, e
		}
	}
	return acts, api.OK
}

// enter opens a list, and answers where what its statements are will be laid.
func (f *function) enter(l []api.Stmt) []api.Act {
	if len(l) == 0 {
		return nil
	}
	acts := make([]api.Act, len(l))
	f.open = append(f.open, &list{rest: l, acts: acts, scope: len(f.scope)})
	return acts
}

// onward goes on with the innermost list: as far as a list that opens in it, or to its end, where its scope is left.
func (f *function) onward() api.Errno {
	depth := len(f.open)
	l := f.open[depth-1]
	defer func() {
		if len(f.open) == depth {
			f.leave()
		}
	}()
	for len(l.rest) > 0 && len(f.open) == depth {
		if e := f.statement(&l.rest[0], &l.acts[0]); e != api.OK {
			return e
		}
		l.rest, l.acts = l.rest[1:], l.acts[1:]
	}
	return api.OK
}

// leave leaves the innermost list, and its scope with it.
func (f *function) leave() {
	last := len(f.open) - 1
	f.scope = f.scope[:f.open[last].scope]
	f.open = f.open[:last]
}

// find is the number of the variable in scope that has a name, which has to be of one of some kinds.
func (f *function) find(name string, kinds ...uint8) (int, api.Errno) {
	n, is := f.named[name]
	if !is {
		return 0, api.ErrName
	}
	if _, is = slices.BinarySearch(f.scope, n); !is {
		return 0, api.ErrName
	}
	if !slices.Contains(kinds, f.kindOf(n)) {
		return 0, api.ErrType
	}
	return n, api.OK
}

// findField is the number of the struct in scope that has a name, and which of its fields has the other one.
func (f *function) findField(name, field string) (n, at int, e api.Errno) {
	n, e = f.find(name, api.TyStruct)
	if e != api.OK {
		return 0, 0, e
	}
	at = slices.Index(f.vars[n].Fields, field)
	if at < 0 {
		return 0, 0, api.ErrName
	}
	return n, at, api.OK
}

// kindOf is the kind of a variable's type.
func (f *function) kindOf(n int) uint8 { return f.vars[n].Type.Kind }
