package scopes

import (
	"slices"

	"theodolite/api"
	"theodolite/locs"
)

// isName tells whether a text is a name.
func isName(s string) bool {
	if len(s) < 1 || len(s) > api.MaxName {
		return false
	}
	for i := range len(s) {
		if !isSign(s[i]) {
			return false
		}
	}
	return true
}

// isSign tells whether a byte may stand in a name.
func isSign(c byte) bool {
	return 'a' <= c && c <= 'z' || 'A' <= c && c <= 'Z' || '0' <= c && c <= '9' || c == '_'
}

// isVar tells whether a variable is right.
func isVar(v api.Var) bool {
	if !isName(v.Name) || v.Words != words(v) {
		return false
	}
	plain := v.Type.Name == "" && len(v.Fields) == 0
	switch v.Type.Kind {
	case api.TyInt, api.TyBool:
		return plain && v.Type.N == 0
	case api.TyArray:
		return plain && v.Type.N >= 1 && v.Type.N <= api.MaxArray
	case api.TyStruct:
		return v.Type.N == 0 && isName(v.Type.Name) && areFields(v.Fields)
	}
	return false
}

// words is how many a variable of that type and those fields has.
func words(v api.Var) int {
	switch v.Type.Kind {
	case api.TyArray:
		return v.Type.N
	case api.TyStruct:
		return len(v.Fields)
	}
	return 1
}

// areFields tells whether a struct may have these.
func areFields(l []string) bool {
	if len(l) < 1 || len(l) > api.MaxFields {
		return false
	}
	for _, s := range l {
		if !isName(s) {
			return false
		}
	}
	return true
}

// holds tells whether a place may have its variables, and whether each of them is nowhere but within the place.
func holds(p api.Place) bool {
	if len(p.Vars) > api.MaxVars || len(p.Spans) != len(p.Vars) {
		return false
	}
	for i, v := range p.Vars {
		if !isVar(v) || !locs.Right(p.Spans[i]) {
			return false
		}
		if slices.ContainsFunc(p.Spans[i], func(s api.Span) bool { return s.From < p.From || s.To > p.To }) {
			return false
		}
	}
	return true
}

// rise tells whether these are numbers below most, each above the one ahead.
func rise(l []int, most int) bool {
	ahead := -1
	for _, k := range l {
		if k <= ahead || k >= most {
			return false
		}
		ahead = k
	}
	return true
}
