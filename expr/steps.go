package expr

import "theodolite/api"

// step is one of a location's. Of whatever kind it is, it lays just one number.
type step interface {
	fits() bool                                        // may its N be?
	numbered() bool                                    // is N among its bytes?
	takes() int                                        // how many numbers it takes from the top of the stack
	lays(taken []int64, v api.View) (n int64, is bool) // what it lays; false, if the view does not know that
}

// of is the step that is told; false, if there is no such kind.
func of(x api.Loc) (s step, is bool) {
	switch x.Kind {
	case api.LocNum:
		return num(x.N), true
	case api.LocReg:
		return reg(x.N), true
	case api.LocBase:
		return base(x.N), true
	case api.LocWord:
		return word(x.N), true
	case api.LocAdd:
		return add(x.N), true
	case api.LocNeg:
		return neg(x.N), true
	}
	return nil, false
}

// Each kind of step is its N, also those in which it has no meaning: it must be 0 there.
type (
	num  int64
	reg  int64
	base int64
	word int64
	add  int64
	neg  int64
)

func (k num) fits() bool     { return true }
func (k num) numbered() bool { return true }
func (k num) takes() int     { return 0 }
func (k num) lays(taken []int64, v api.View) (n int64, is bool) {
	return int64(k), true
}

func (k reg) fits() bool     { return k >= 0 && k < api.Regs }
func (k reg) numbered() bool { return true }
func (k reg) takes() int     { return 0 }

// A register that is known is 0 where the list of what is in them ends ahead of it.
func (k reg) lays(taken []int64, v api.View) (n int64, is bool) {
	if int(k) >= len(v.Known) || !v.Known[k] {
		return 0, false
	}
	if int(k) < len(v.Regs) {
		n = v.Regs[k]
	}
	return n, true
}

func (k base) fits() bool     { return true }
func (k base) numbered() bool { return true }
func (k base) takes() int     { return 0 }
func (k base) lays(taken []int64, v api.View) (n int64, is bool) {
	return v.Base + int64(k), true
}

func (k word) fits() bool     { return k == 0 }
func (k word) numbered() bool { return false }
func (k word) takes() int     { return 1 }
func (k word) lays(taken []int64, v api.View) (n int64, is bool) {
	at := taken[0]
	if at < 0 || at >= int64(len(v.Words)) {
		return 0, false
	}
	return v.Words[at], true
}

func (k add) fits() bool     { return k == 0 }
func (k add) numbered() bool { return false }
func (k add) takes() int     { return 2 }
func (k add) lays(taken []int64, v api.View) (n int64, is bool) {
	return taken[0] + taken[1], true
}

func (k neg) fits() bool     { return k == 0 }
func (k neg) numbered() bool { return false }
func (k neg) takes() int     { return 1 }
func (k neg) lays(taken []int64, v api.View) (n int64, is bool) {
	return -taken[0], true
}
