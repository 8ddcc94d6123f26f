package sound

import (
	"theodolite/api"
	"theodolite/dom"
	"theodolite/parts"
)

// mayBe tells whether a unit may be (14).
func mayBe(u api.Unit) bool {
	if len(u.Funcs) > api.MaxFuncs || !isIn(u.Main, len(u.Funcs)) || u.Funcs[u.Main].Params != 0 {
		return false
	}
	for i := range u.Points {
		if !pointMayBe(u, &u.Points[i]) {
			return false
		}
	}
	for n := range u.Funcs {
		r := reader{u, n, &u.Funcs[n]}
		if !r.mayBe() {
			return false
		}
	}
	return true
}

// isIn tells whether n is a place of a list of so many.
func isIn[T int | int64](n T, many int) bool { return n >= 0 && n < T(many) }

func pointMayBe(u api.Unit, p *api.Point) bool {
	if !isIn(p.Func, len(u.Funcs)) {
		return false
	}
	for _, v := range p.Scope {
		if !isIn(v, len(u.Funcs[p.Func].Vars)) {
			return false
		}
	}
	return true
}

// reader goes through a function of a unit.
type reader struct {
	u      api.Unit
	number int
	f      *api.Func
}

func (r *reader) mayBe() bool {
	return r.headMayBe() && r.blocksMayBe() && r.phisMayBe()
}

// headMayBe: is all as it may be that stands in no block?
func (r *reader) headMayBe() bool {
	for i := range r.f.Vars {
		if n := r.f.Vars[i].Words; n < 1 || n > api.MaxArray {
			return false
		}
	}
	if r.f.Params < 0 || r.f.Params > len(r.f.Vars) {
		return false
	}
	return r.f.Size >= 0 && r.f.Size <= api.MaxIns
}

func (r *reader) blocksMayBe() bool {
	l := r.f.Blocks
	if len(l) < 1 || len(l) > api.MaxBlocks {
		return false
	}
	room := api.MaxIns
	for b := range l {
		room -= len(l[b].Ins)
		if room < 0 || !r.endMayBe(&l[b].Term) {
			return false
		}
		for i := range l[b].Ins {
			if !r.insMayBe(&l[b].Ins[i]) {
				return false
			}
		}
	}
	return true
}

func (r *reader) endMayBe(end *api.Term) bool {
	for v := range parts.LooksOfEnd(end) {
		if !isIn(*v, r.f.Size) {
			return false
		}
	}
	switch end.Kind {
	case api.TermJump:
		return isIn(end.To, len(r.f.Blocks))
	case api.TermIf:
		return isIn(end.To, len(r.f.Blocks)) && isIn(end.Else, len(r.f.Blocks))
	}
	return end.Kind == api.TermRet
}

func (r *reader) insMayBe(i *api.Ins) bool {
	if parts.Makes(i) && !isIn(i.Dst, r.f.Size) {
		return false
	}
	for v := range parts.Looks(i) {
		if !isIn(*v, r.f.Size) {
			return false
		}
	}
	switch i.Op {
	case api.InsConst, api.InsCopy, api.InsInput, api.InsPrint, api.InsPhi:
		return true
	case api.InsArg:
		return isIn(i.Num, r.f.Params)
	case api.InsCall:
		return isIn(i.Num, len(r.u.Funcs)) && len(i.Args) == r.u.Funcs[i.Num].Params
	case api.InsMark:
		return isIn(i.Num, len(r.u.Points)) && r.u.Points[i.Num].Func == r.number
	}
	return i.Op >= api.OpAdd && i.Op <= api.OpNeg || r.varMayBe(i)
}

// varMayBe: does an instruction name a variable, and one that is in place?
func (r *reader) varMayBe(i *api.Ins) bool {
	if !isIn(i.Var, len(r.f.Vars)) {
		return false
	}
	v := &r.f.Vars[i.Var]
	switch i.Op {
	case api.InsGet, api.InsSet, api.InsBind:
		return (v.Type.Kind == api.TyInt || v.Type.Kind == api.TyBool) && v.Words == 1
	case api.InsLoad, api.InsStore:
		return v.Type.Kind == api.TyArray
	case api.InsField, api.InsSetF:
		return v.Type.Kind == api.TyStruct && isIn(i.Num, v.Words)
	case api.InsZero:
		return v.Type.Kind == api.TyArray || v.Type.Kind == api.TyStruct
	}
	return false
}

// phisMayBe: do Phis stand at heads alone, each with what comes of each way? (Ways are asked for when all ends are as they may be.)
func (r *reader) phisMayBe() bool {
	into := dom.Ways(*r.f)
	for b := range r.f.Blocks {
		l := r.f.Blocks[b].Ins
		for n := range l {
			if l[n].Op != api.InsPhi {
				continue
			}
			if b == 0 || n > 0 && l[n-1].Op != api.InsPhi || len(l[n].Args) != len(into[b]) {
				return false
			}
		}
	}
	return true
}
