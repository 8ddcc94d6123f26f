// Package parts tells what an instruction's parts are to it (14): what it makes, and what it looks at. All layers from 16 on need that of a unit's instructions and ends.
package parts

import (
	"iter"

	"theodolite/api"
)

// Makes tells whether an instruction makes a virtual: its Dst.
func Makes(i *api.Ins) bool {
	switch i.Op {
	case api.InsSet, api.InsStore, api.InsSetF, api.InsZero, api.InsPrint, api.InsMark, api.InsBind:
		return false
	case api.InsCall:
		return i.Dst != -1
	}
	return true
}

// Looks goes through the virtuals that an instruction looks at, each where it stands, so that another one can be put there.
func Looks(i *api.Ins) iter.Seq[*int] {
	return func(yield func(v *int) bool) {
		switch {
		case i.Op == api.InsCall || i.Op == api.InsPhi:
			for n := range i.Args {
				if !yield(&i.Args[n]) {
					return
				}
			}
		case hasBoth(i.Op):
			if yield(&i.A) {
				yield(&i.B)
			}
		case hasOne(i):
			yield(&i.A)
		}
	}
}

// hasBoth tells whether an instruction looks at A and B.
func hasBoth(op uint8) bool {
	return op >= api.OpAdd && op <= api.OpOr || op == api.InsStore
}

// hasOne tells whether one looks at A alone.
func hasOne(i *api.Ins) bool {
	switch i.Op {
	case api.OpNot, api.OpNeg, api.InsSet, api.InsCopy, api.InsLoad, api.InsSetF, api.InsPrint:
		return true
	case api.InsBind:
		return i.A != -1
	}
	return false
}

// LooksOfEnd goes through those that a block's end looks at.
func LooksOfEnd(end *api.Term) iter.Seq[*int] {
	return func(yield func(v *int) bool) {
		if end.Kind == api.TermIf || end.Kind == api.TermRet && end.A != -1 {
			yield(&end.A)
		}
	}
}

// Goals goes through the blocks to which an end goes, To ahead of Else.
func Goals(end *api.Term) iter.Seq[int] {
	return func(yield func(to int) bool) {
		switch end.Kind {
		case api.TermJump:
			yield(end.To)
		case api.TermIf:
			if yield(end.To) {
				yield(end.Else)
			}
		}
	}
}
