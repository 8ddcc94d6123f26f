package build

import "theodolite/api"

// list makes statements, as far as a way leads to them.
func (m *maker) list(l []api.Act) {
	for i := range l {
		if !m.isReached() {
			return
		}
		m.statement(&l[i])
	}
}

// statement makes one.
func (m *maker) statement(a *api.Act) {
	var again func()
	if a.Kind == api.StFor {
		again = m.loop() // ahead of the Mark, as that comes with each asking of the condition
	}
	m.mark(a.Point)
	made := m.values(a.Kids)
	switch a.Kind {
	case api.StVar:
		m.declare(a.Var, made)
	case api.StSet:
		m.set(a.Var, made[0])
	case api.StElem:
		m.lay(api.Ins{Op: api.InsStore, Dst: -1, A: made[0], B: made[1], Var: a.Var})
	case api.StField:
		m.lay(api.Ins{Op: api.InsSetF, Dst: -1, A: made[0], B: -1, Var: a.Var, Num: int64(a.Field)})
	case api.StCall:
		m.call(a, made)
	case api.StIf:
		m.branch(a, made[0])
	case api.StFor:
		m.repeat(a, made[0], again)
	case api.StPrint:
		m.lay(api.Ins{Op: api.InsPrint, Dst: -1, A: made[0], B: -1, Var: -1})
	case api.StInput:
		m.set(a.Var, m.virtual(blank(api.InsInput)))
	case api.StReturn:
		m.giveBack(append(made, -1)[0]) // -1, if nothing was made
	}
}

// mark lays the Mark of a point.
func (m *maker) mark(point int) {
	i := blank(api.InsMark)
	i.Num = int64(point)
	m.lay(i)
}

// set gives a scalar a value.
func (m *maker) set(v, a int) {
	m.lay(api.Ins{Op: api.InsSet, Dst: -1, A: a, B: -1, Var: v})
}

// declare gives a variable its value; noughts, if there is none, as of an aggregate.
func (m *maker) declare(v int, made []int) {
	if len(made) > 0 {
		m.set(v, made[0])
		return
	}
	i := blank(api.InsZero)
	i.Var = v
	m.lay(i)
}

// call calls a function with arguments that are made.
func (m *maker) call(a *api.Act, made []int) {
	i := blank(api.InsCall)
	i.Num, i.Args = int64(a.Call), made
	if a.Var < 0 {
		m.lay(i)
		return
	}
	m.set(a.Var, m.virtual(i))
}

// branch makes both lists of an if, behind which their ways go on together.
func (m *maker) branch(a *api.Act, condition int) {
	yes, no := m.fork(condition)
	m.waiting = []func(to int){yes}
	m.list(a.Body)
	m.jump()
	behind := m.waiting
	m.waiting = []func(to int){no}
	m.list(a.Else)
	m.jump()
	m.waiting = append(m.waiting, behind...)
}

// repeat makes the list of a for, from whose end again leads back.
func (m *maker) repeat(a *api.Act, condition int, again func()) {
	yes, no := m.fork(condition)
	m.waiting = []func(to int){yes}
	m.list(a.Body)
	again()
	m.waiting = []func(to int){no}
}
