package unwind

import (
	"theodolite/api"
	"theodolite/leb"
)

// put lays numbers behind b, in the room behind its end too: b is no caller's.
func put(b []byte, numbers ...int) []byte {
	for _, n := range numbers {
		b = append(b, leb.PutU(nil, uint64(n))...)
	}
	return b
}

// get is a number for each of the bounds, and the place behind them; false, if one does not stand there, or is above its bound. The bounds keep what is reckoned of the numbers from going round.
func get(b []byte, at int, bounds ...uint64) (numbers []int, next int, is bool) {
	for _, most := range bounds {
		n, behind, e := leb.U(b, at)
		if e != api.OK || n > most {
			return nil, 0, false
		}
		numbers, at = append(numbers, int(n)), behind
	}
	return numbers, at, true
}

// entry is the one whose bytes stand at a place, whether it may be there or not, and the place behind it; false, if there is none.
func entry(b []byte, at, ahead int) (u api.Unwind, next int, is bool) {
	n, next, is := get(b, at, mostPlace, mostPlace, mostUp, manyKept)
	if !is {
		return api.Unwind{}, 0, false
	}
	gap, long, up, many := n[0], n[1], n[2], n[3]
	u.From, u.To, u.Up = ahead+gap, ahead+gap+long, int64(up)
	for range many {
		s, behind, is := saved(b, next)
		if !is {
			return api.Unwind{}, 0, false
		}
		u.Regs, next = append(u.Regs, s), behind
	}
	return u, next, true
}

// saved is where a register lies, of an entry, and the place behind it; false, if there is none.
func saved(b []byte, at int) (s api.Saved, next int, is bool) {
	if at >= len(b) {
		return api.Saved{}, 0, false
	}
	n, next, is := get(b, at+1, mostBelow)
	if !is {
		return api.Saved{}, 0, false
	}
	return api.Saved{Reg: int(b[at]), At: int64(-n[0])}, next, true
}
