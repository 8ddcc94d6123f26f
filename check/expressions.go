package check

import "theodolite/api"

// half is an expression some of whose kids were not looked at yet.
type half struct {
	exp   *api.Exp
	val   api.Val // what it is, with the kids that were looked at
	kinds []uint8 // the kinds of what these are
}

// values looks at expressions from the left on: what they are, and of which kinds. The halves wait in a list, not in calls, as there is no bound to how many stand one in the other.
func (f *function) values(l []api.Exp) ([]api.Val, []uint8, api.Errno) {
	open := []half{{exp: &api.Exp{Kids: l}}} // as if all were the kids of one
	for {
		h := &open[len(open)-1]
		if at := len(h.kinds); at < len(h.exp.Kids) {
			inner, e := f.begin(&h.exp.Kids[at])
			if e != api.OK {
				return nil, nil, e
			}
			open = append(open, inner)
			continue
		}
		if len(open) == 1 {
			return h.val.Kids, h.kinds, api.OK
		}
		kind := f.end(h)
		if kind == api.TyNone {
			return nil, nil, api.ErrType
		}
		around := &open[len(open)-2]
		around.val.Kids = append(around.val.Kids, h.val)
		around.kinds = append(around.kinds, kind)
		open = open[:len(open)-1]
	}
}

// begin looks at what an expression names ahead of its kids.
func (f *function) begin(x *api.Exp) (h half, e api.Errno) {
	h.exp = x
	switch x.Kind {
	case api.ExpNum:
		h.val = api.Val{Kind: api.ValNum, Num: x.Num}
	case api.ExpBool:
		h.val = api.Val{Kind: api.ValNum}
		if x.Num != 0 {
			h.val.Num = 1
		}
	case api.ExpVar:
		h.val.Kind = api.ValVar
		h.val.Var, e = f.find(x.Name, api.TyInt, api.TyBool)
	case api.ExpElem:
		h.val.Kind = api.ValElem
		h.val.Var, e = f.find(x.Name, api.TyArray)
	case api.ExpField:
		var at int
		h.val.Kind = api.ValField
		h.val.Var, at, e = f.findField(x.Name, x.Field)
		h.val.Num = int64(at)
	}
	return h, e
}

// end is the kind of an expression whose kids were looked at; TyNone, if they do not fit, or there is no such one. Where a sign stands between or ahead of them it lays its operation.
func (f *function) end(h *half) uint8 {
	var p operation
	switch x := h.exp; x.Kind {
	case api.ExpNum, api.ExpField:
		p = operation{is: api.TyInt}
	case api.ExpBool:
		p = operation{is: api.TyBool}
	case api.ExpVar:
		p = operation{is: f.kindOf(h.val.Var)}
	case api.ExpElem:
		p = operation{of: api.TyInt, sides: 1, is: api.TyInt}
	case api.ExpUn:
		p = ahead(x.Op)
		h.val.Kind, h.val.Op = api.ValUn, p.op
	case api.ExpBin:
		p = between(x.Op)
		h.val.Kind, h.val.Op = api.ValBin, p.op
	}
	if !p.takes(h.kinds) {
		return api.TyNone
	}
	return p.is
}
