package build

import (
	"slices"

	"theodolite/api"
)

// values makes expressions, from the left on, and answers their virtuals.
func (m *maker) values(l []api.Val) []int {
	var made []int
	for _, v := range behindKids(l) {
		first := len(made) - len(v.Kids)
		n := m.virtual(instruction(v, made[first:]))
		made = append(made[:first], n)
	}
	return made
}

// behindKids is all that stands in expressions, from the left on, each thing behind its kids. Those that are still to be looked at wait in a list, not in calls, as there is no bound to how deep one stands in another.
func behindKids(l []api.Val) []*api.Val {
	var waiting, all []*api.Val
	wait := func(l []api.Val) {
		for i := range l {
			waiting = append(waiting, &l[i])
		}
	}
	wait(l)
	for len(waiting) > 0 {
		v := waiting[len(waiting)-1]
		waiting = waiting[:len(waiting)-1]
		all = append(all, v)
		wait(v.Kids)
	}
	slices.Reverse(all) // it was gone through from the right on, kids behind
	return all
}

// instruction is what makes an expression of its kids, which are made.
func instruction(v *api.Val, kids []int) api.Ins {
	i := blank(v.Op)
	switch v.Kind {
	case api.ValNum:
		i.Op, i.Num = api.InsConst, v.Num
	case api.ValVar:
		i.Op, i.Var = api.InsGet, v.Var
	case api.ValElem:
		i.Op, i.Var, i.A = api.InsLoad, v.Var, kids[0]
	case api.ValField:
		i.Op, i.Var, i.Num = api.InsField, v.Var, v.Num
	case api.ValUn:
		i.A = kids[0]
	case api.ValBin:
		i.A, i.B = kids[0], kids[1]
	}
	return i
}
