package check

import (
	"slices"

	"theodolite/api"
)

func isScalar(t api.Type) bool { return t.Kind == api.TyInt || t.Kind == api.TyBool }

// isThere tells whether a type is none of a struct that is not declared.
func (c *checker) isThere(t api.Type) bool {
	_, is := c.structs[t.Name]
	return is || t.Kind != api.TyStruct
}

// mayBe tells whether a variable may be of a type that is there.
func mayBe(t api.Type) bool {
	switch t.Kind {
	case api.TyInt, api.TyBool, api.TyStruct:
		return true
	case api.TyArray:
		return t.N >= 1 && t.N <= api.MaxArray
	}
	return false
}

// variable is one of a type of which it may be. Of the type it has what the type's kind has alone.
func (c *checker) variable(name string, t api.Type) api.Var {
	switch t.Kind {
	case api.TyArray:
		return api.Var{Name: name, Type: api.Type{Kind: t.Kind, N: t.N}, Words: t.N}
	case api.TyStruct:
		fields := c.prog.Structs[c.structs[t.Name]].Fields
		return api.Var{Name: name, Type: api.Type{Kind: t.Kind, Name: t.Name}, Words: len(fields), Fields: slices.Clone(fields)}
	}
	return api.Var{Name: name, Type: api.Type{Kind: t.Kind}, Words: 1}
}
