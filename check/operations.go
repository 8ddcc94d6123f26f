package check

import "theodolite/api"

// operation says which sides something has, and what it comes to.
type operation struct {
	op    uint8
	sides int
	of    uint8 // the kind of all sides; TyNone: any one
	is    uint8 // the kind of what it comes to; TyNone: there is none
}

// takes tells whether sides of such kinds are those that an operation has.
func (p operation) takes(kinds []uint8) bool {
	if len(kinds) != p.sides {
		return false
	}
	for _, k := range kinds {
		if k != kinds[0] || p.of != api.TyNone && k != p.of {
			return false
		}
	}
	return true
}

// ahead is the operation of a sign ahead of its side.
func ahead(sign string) operation {
	switch sign {
	case "-":
		return operation{api.OpNeg, 1, api.TyInt, api.TyInt}
	case "!":
		return operation{api.OpNot, 1, api.TyBool, api.TyBool}
	}
	return operation{}
}

// between is the operation of a sign between its sides.
func between(sign string) operation {
	switch sign {
	case "+":
		return operation{api.OpAdd, 2, api.TyInt, api.TyInt}
	case "-":
		return operation{api.OpSub, 2, api.TyInt, api.TyInt}
	case "*":
		return operation{api.OpMul, 2, api.TyInt, api.TyInt}
	case "/":
		return operation{api.OpDiv, 2, api.TyInt, api.TyInt}
	case "%":
		return operation{api.OpRem, 2, api.TyInt, api.TyInt}
	case "==":
		return operation{api.OpEq, 2, api.TyNone, api.TyBool}
	case "!=":
		return operation{api.OpNe, 2, api.TyNone, api.TyBool}
	case "<":
		return operation{api.OpLt, 2, api.TyInt, api.TyBool}
	case "<=":
		return operation{api.OpLe, 2, api.TyInt, api.TyBool}
	case ">":
		return operation{api.OpGt, 2, api.TyInt, api.TyBool}
	case ">=":
		return operation{api.OpGe, 2, api.TyInt, api.TyBool}
	case "&&":
		return operation{api.OpAnd, 2, api.TyBool, api.TyBool}
	case "||":
		return operation{api.OpOr, 2, api.TyBool, api.TyBool}
	}
	return operation{}
}
