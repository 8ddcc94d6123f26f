package sound

import (
	"iter"

	"theodolite/api"
)

// makes tells whether an instruction makes a virtual.
func makes(i *api.Ins) bool {
	switch i.Op {
	case api.InsSet, api.InsStore, api.InsSetF, api.InsZero, api.InsPrint, api.InsMark, api.InsBind:
		return false
	case api.InsCall:
		return i.Dst != -1
	}
	return true
}

// looks goes through the virtuals that an instruction looks at.
func looks(i *api.Ins) iter.Seq[int] {
	return func(yield func(v int) bool) {
		switch {
		case i.Op == api.InsCall || i.Op == api.InsPhi:
			for _, v := range i.Args {
				if !yield(v) {
					return
				}
			}
		case hasBoth(i.Op):
			if yield(i.A) {
				yield(i.B)
			}
		case hasOne(i):
			yield(i.A)
		}
	}
}

// hasBoth tells whether an instruction looks at A and B.
func hasBoth(op uint8) bool {
	return op >= api.OpAdd && op <= api.OpOr || op == api.InsStore
}

// hasOne tells whether one looks at A alone.
func hasOne(i *api.Ins) bool {
	switch i.Op {
	case api.OpNot, api.OpNeg, api.InsSet, api.InsCopy, api.InsLoad, api.InsSetF, api.InsPrint:
		return true
	case api.InsBind:
		return i.A != -1
	}
	return false
}

// looksOfEnd goes through those that a block's end looks at.
func looksOfEnd(end api.Term) iter.Seq[int] {
	return func(yield func(v int) bool) {
		if end.Kind == api.TermIf || end.Kind == api.TermRet && end.A != -1 {
			yield(end.A)
		}
	}
}
