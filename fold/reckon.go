package fold

import (
	"cmp"

	"theodolite/api"
)

// comparisons are what each of them comes to, from OpEq on: of a left side that is less than the right one, as great, greater.
var comparisons = [6][3]int64{
	{0, 1, 0}, // OpEq
	{1, 0, 1}, // OpNe
	{1, 0, 0}, // OpLt
	{1, 1, 0}, // OpLe
	{0, 0, 1}, // OpGt
	{0, 1, 1}, // OpGe
}

// reckon is what an operation comes to, if it does not end the run. (One of one side has no use for the other.)
func reckon(op uint8, x, y int64) (n int64, is bool) {
	switch op {
	case api.OpAdd:
		return x + y, true
	case api.OpSub:
		return x - y, true
	case api.OpMul:
		return x * y, true
	case api.OpDiv:
		if y == 0 {
			return 0, false
		}
		return x / y, true
	case api.OpRem:
		if y == 0 {
			return 0, false
		}
		return x % y, true
	case api.OpAnd:
		return x & y, true
	case api.OpOr:
		return x | y, true
	case api.OpNot:
		return 1 - x, true
	case api.OpNeg:
		return -x, true
	}
	return comparisons[op-api.OpEq][1+cmp.Compare(x, y)], true
}
