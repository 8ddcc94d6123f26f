package check_test

import (
	"math"
	"strings"
	"testing"

	"theodolite/api"
	"theodolite/check"
)

// P13.3, P13.4

// isOf: an expression in test is of that kind; api.TyNone: it has that error.
func isOf(t *testing.T, x api.Exp, kind uint8, e api.Errno) {
	t.Helper()
	asInt := oneMore(t, api.Stmt{Kind: api.StPrint, Kids: []api.Exp{x}})
	asBool := oneMore(t, api.Stmt{Kind: api.StIf, Kids: []api.Exp{x}})
	switch kind {
	case api.TyInt:
		comesTo(t, asInt, within, api.OK)
		comesTo(t, asBool, within, api.ErrType)
	case api.TyBool:
		comesTo(t, asInt, within, api.ErrType)
		comesTo(t, asBool, within, api.OK)
	default:
		comesTo(t, asInt, within, e)
		comesTo(t, asBool, within, e)
	}
}

// side is an expression that may stand beside a sign.
type side struct {
	x    api.Exp
	kind uint8
	e    api.Errno
}

func sides() []side {
	return []side{
		{num(7), api.TyInt, 0}, {named("x"), api.TyInt, 0}, {elem("a", num(1)), api.TyInt, 0}, {field("s", "l"), api.TyInt, 0}, {un("-", named("x")), api.TyInt, 0},
		{truth(1), api.TyBool, 0}, {truth(0), api.TyBool, 0}, {named("b"), api.TyBool, 0}, {un("!", named("b")), api.TyBool, 0}, {bin(num(1), "<", num(2)), api.TyBool, 0},
		{named("a"), 0, api.ErrType}, {named("s"), 0, api.ErrType}, {named("nope"), 0, api.ErrName}, {named("T"), 0, api.ErrName}, {named("f"), 0, api.ErrName},
		{bin(num(1), "+", truth(1)), 0, api.ErrType}, {un("-", named("nope")), 0, api.ErrName}, {field("s", "m"), 0, api.ErrName}, {field("x", "k"), 0, api.ErrType}, {elem("x", num(1)), 0, api.ErrType}, {elem("nope", num(1)), 0, api.ErrName}, {api.Exp{}, 0, api.ErrType},
	}
}

func TestSides(t *testing.T) {
	for _, s := range sides() {
		isOf(t, s.x, s.kind, s.e)
	}
}

func TestSignsAhead(t *testing.T) {
	for _, s := range sides() {
		for sign, kind := range map[string]uint8{"-": api.TyInt, "!": api.TyBool, "+": 0, "": 0, "--": 0, "&&": 0, "~": 0, "- ": 0} {
			switch {
			case s.kind == api.TyNone:
				isOf(t, un(sign, s.x), 0, s.e)
			case s.kind == kind:
				isOf(t, un(sign, s.x), kind, 0)
			default:
				isOf(t, un(sign, s.x), 0, api.ErrType)
			}
		}
	}
}

// signsBetween are signs that stand between sides, with the kind that both have to be (99: any one) and the kind of what they come to; and some that do not.
func signsBetween() map[string][2]uint8 {
	m := map[string][2]uint8{"": {}, " +": {}, "+ ": {}}
	for signs, kinds := range map[string][2]uint8{
		"+ - * / %": {api.TyInt, api.TyInt}, "< <= > >=": {api.TyInt, api.TyBool}, "== !=": {99, api.TyBool}, "&& ||": {api.TyBool, api.TyBool}, "! = & | === => ++ . x 1": {},
	} {
		for s := range strings.FieldsSeq(signs) {
			m[s] = kinds
		}
	}
	return m
}

func TestSignsBetween(t *testing.T) {
	for sign, w := range signsBetween() {
		for _, a := range sides() {
			for _, b := range sides() {
				x := bin(a.x, sign, b.x)
				switch {
				case a.kind == api.TyNone:
					isOf(t, x, 0, a.e) // the left side is ahead of the right one
				case b.kind == api.TyNone:
					isOf(t, x, 0, b.e) // and both are ahead of the sign
				case a.kind == b.kind && (a.kind == w[0] || w[0] == 99):
					isOf(t, x, w[1], 0)
				default:
					isOf(t, x, 0, api.ErrType)
				}
			}
		}
	}
}

func TestIndices(t *testing.T) {
	for _, s := range sides() {
		switch s.kind {
		case api.TyInt:
			isOf(t, elem("a", s.x), api.TyInt, 0)
			isOf(t, elem("a", elem("a", s.x)), api.TyInt, 0)
		case api.TyBool:
			isOf(t, elem("a", s.x), 0, api.ErrType)
		default:
			isOf(t, elem("a", s.x), 0, s.e)
		}
		isOf(t, elem("nope", s.x), 0, api.ErrName) // what has the index is ahead of it
		isOf(t, elem("x", s.x), 0, api.ErrType)
		isOf(t, elem("b", s.x), 0, api.ErrType)
		isOf(t, elem("s", s.x), 0, api.ErrType)
	}
}

func TestFields(t *testing.T) {
	for name, want := range map[string]map[string]api.Errno{
		"s": {"k": api.OK, "l": api.OK, "m": api.ErrName, "": api.ErrName, "K": api.ErrName, "s": api.ErrName, "T": api.ErrName},
		"x": {"k": api.ErrType, "m": api.ErrType}, "a": {"k": api.ErrType}, "b": {"": api.ErrType}, "nope": {"k": api.ErrName, "m": api.ErrName}, "T": {"k": api.ErrName},
	} {
		for f, e := range want {
			if e == api.OK {
				isOf(t, field(name, f), api.TyInt, 0)
			} else {
				isOf(t, field(name, f), 0, e)
			}
		}
	}
}

// Too few kids, or too many, are what they are, and do not fit.
func TestHowManyKids(t *testing.T) {
	kinds := map[uint8]int{api.ExpNum: 0, api.ExpBool: 0, api.ExpVar: 0, api.ExpElem: 1, api.ExpField: 0, api.ExpUn: 1, api.ExpBin: 2, 0: -1, 8: -1, 9: -1, 255: -1}
	for kind, n := range kinds {
		x := api.Exp{Kind: kind, Name: "x", Op: "-"}
		switch kind {
		case api.ExpElem:
			x.Name = "a"
		case api.ExpField:
			x.Name, x.Field = "s", "k"
		}
		for k := range 5 {
			x.Kids = nil
			for range k {
				x.Kids = append(x.Kids, num(1))
			}
			switch {
			case k != n:
				isOf(t, x, 0, api.ErrType)
			case kind == api.ExpBool:
				isOf(t, x, api.TyBool, 0)
			default:
				isOf(t, x, api.TyInt, 0)
			}
			for i := range x.Kids {
				x.Kids[i] = named("nope")
				isOf(t, x, 0, api.ErrName)
				x.Kids[i] = num(1)
			}
		}
	}
}

// What an expression of a kind does not have is not looked at.
func TestWhatAnExpressionDoesNotHave(t *testing.T) {
	for _, x := range []api.Exp{
		{Kind: api.ExpNum, Num: 3, Name: "nope", Field: "nope", Op: "nope"}, {Kind: api.ExpVar, Num: 3, Name: "x", Field: "nope", Op: "nope"},
		{Kind: api.ExpElem, Num: 3, Name: "a", Field: "nope", Op: "nope", Kids: []api.Exp{num(1)}}, {Kind: api.ExpField, Num: 3, Name: "s", Field: "l", Op: "nope"},
		{Kind: api.ExpUn, Num: 3, Name: "nope", Field: "nope", Op: "-", Kids: []api.Exp{num(1)}}, {Kind: api.ExpBin, Num: 3, Name: "nope", Field: "nope", Op: "-", Kids: []api.Exp{num(1), num(1)}},
	} {
		isOf(t, x, api.TyInt, 0)
		plain := api.Exp{Kind: x.Kind, Kids: x.Kids}
		switch x.Kind {
		case api.ExpNum:
			plain.Num = x.Num
		case api.ExpVar, api.ExpElem:
			plain.Name = x.Name
		case api.ExpField:
			plain.Name, plain.Field = x.Name, x.Field
		default:
			plain.Op = x.Op
		}
		a, _, _ := check.Program(oneMore(t, api.Stmt{Kind: api.StPrint, Kids: []api.Exp{x}}))
		b, _, _ := check.Program(oneMore(t, api.Stmt{Kind: api.StPrint, Kids: []api.Exp{plain}}))
		if !same(a, b) {
			t.Errorf("%s: %s, and %s", tell(x), tell(a), tell(b))
		}
	}
}

// value is what an expression that is printed, or asked, is in the tree.
func value(t *testing.T, kind uint8, x api.Exp) api.Val {
	t.Helper()
	tree := comesTo(t, oneMore(t, api.Stmt{Kind: kind, Kids: []api.Exp{x}}), within, api.OK)
	if len(tree.Bodies) != 6 {
		t.Fatalf("%s: no tree", tell(x))
	}
	l := tree.Bodies[5].Acts
	return l[len(l)-1].Kids[0]
}

func TestWhatExpressionsAre(t *testing.T) {
	for _, n := range []int64{0, 1, -1, 7, math.MaxInt64, math.MinInt64} {
		if v := value(t, api.StPrint, num(n)); !same(v, cnum(n)) {
			t.Errorf("number %d: %s", n, tell(v))
		}
		want := int64(1)
		if n == 0 {
			want = 0
		}
		if v := value(t, api.StIf, truth(n)); !same(v, cnum(want)) {
			t.Errorf("bool %d: %s", n, tell(v))
		}
	}
	for _, c := range []struct {
		x    api.Exp
		want api.Val
	}{
		{named("x"), cvar(0)}, {elem("a", num(3)), celem(2, cnum(3))}, {elem("a", elem("a", named("x"))), celem(2, celem(2, cvar(0)))}, {field("s", "k"), cfield(3, 0)}, {field("s", "l"), cfield(3, 1)},
		{un("-", named("x")), cun(api.OpNeg, cvar(0))}, {un("-", un("-", num(1))), cun(api.OpNeg, cun(api.OpNeg, cnum(1)))},
		{bin(num(1), "+", num(2)), cbin(cnum(1), api.OpAdd, cnum(2))}, {bin(num(1), "-", num(2)), cbin(cnum(1), api.OpSub, cnum(2))}, {bin(num(1), "*", num(2)), cbin(cnum(1), api.OpMul, cnum(2))},
		{bin(num(1), "/", num(2)), cbin(cnum(1), api.OpDiv, cnum(2))}, {bin(num(1), "%", num(2)), cbin(cnum(1), api.OpRem, cnum(2))},
		{bin(bin(num(1), "-", field("s", "l")), "-", elem("a", un("-", num(4)))), cbin(cbin(cnum(1), api.OpSub, cfield(3, 1)), api.OpSub, celem(2, cun(api.OpNeg, cnum(4))))},
		{bin(num(1), "-", bin(num(2), "-", num(3))), cbin(cnum(1), api.OpSub, cbin(cnum(2), api.OpSub, cnum(3)))},
	} {
		if v := value(t, api.StPrint, c.x); !same(v, c.want) {
			t.Errorf("%s: %s, want %s", tell(c.x), tell(v), tell(c.want))
		}
	}
	yes, no := truth(1), truth(0)
	for _, c := range []struct {
		x    api.Exp
		want api.Val
	}{
		{named("b"), cvar(1)}, {un("!", named("b")), cun(api.OpNot, cvar(1))},
		{bin(num(1), "==", num(2)), cbin(cnum(1), api.OpEq, cnum(2))}, {bin(yes, "==", no), cbin(cnum(1), api.OpEq, cnum(0))}, {bin(num(1), "!=", num(2)), cbin(cnum(1), api.OpNe, cnum(2))}, {bin(yes, "!=", no), cbin(cnum(1), api.OpNe, cnum(0))},
		{bin(num(1), "<", num(2)), cbin(cnum(1), api.OpLt, cnum(2))}, {bin(num(1), "<=", num(2)), cbin(cnum(1), api.OpLe, cnum(2))}, {bin(num(1), ">", num(2)), cbin(cnum(1), api.OpGt, cnum(2))}, {bin(num(1), ">=", num(2)), cbin(cnum(1), api.OpGe, cnum(2))},
		{bin(yes, "&&", no), cbin(cnum(1), api.OpAnd, cnum(0))}, {bin(yes, "||", no), cbin(cnum(1), api.OpOr, cnum(0))},
	} {
		if v := value(t, api.StIf, c.x); !same(v, c.want) {
			t.Errorf("%s: %s, want %s", tell(c.x), tell(v), tell(c.want))
		}
	}
}

// Flow

func TestFlow(t *testing.T) {
	for text, returns := range map[string]bool{
		"":                                      false,
		"return 1;":                             true,
		"print(1);":                             false,
		"print(1); return 1;":                   true,
		"return 1; print(1);":                   false,
		"return 1; return 1;":                   true,
		"if b { return 1; }":                    false,
		"if b { return 1; } else {}":            false,
		"if b { } else {return 1;}":             false,
		"if b { return 1; } else { return 2; }": true,
		"if b { return 1; } else { return 2; } print(1);":                                                        false,
		"if b { return 1; } else { return 2; } return 1;":                                                        true,
		"if b { } else { } return 1;":                                                                            true,
		"if b { return 1; print(1); } else { return 2; }":                                                        false,
		"if b { return 1; } else { return 2; print(1); }":                                                        false,
		"if b { print(1); return 1; } else { print(2); return 2; }":                                              true,
		"for b { return 1; }":                                                                                    false,
		"for true { return 1; }":                                                                                 false,
		"for b { } return 1;":                                                                                    true,
		"if b { for b { return 1; } } else { return 1; }":                                                        false,
		"if b { return 1; } else { for b { return 1; } }":                                                        false,
		"if b { if b { return 1; } else { return 2; } } else { return 1; }":                                      true,
		"if b { if b { return 1; } } else { return 1; }":                                                         false,
		"if b { return 1; } else { if b { return 1; } else { return 2; } }":                                      true,
		"if b { return 1; } else { if b { return 1; } else { if b { return 1; } else { } } }":                    false,
		"if b { return 1; } else { if b { return 1; } else { if b { return 1; } else { return 2; } } }":          true,
		"if b { if b { return 1; } else { print(1); } return 1; } else { if b { } return 1; }":                   true,
		"if b { if b { return 1; } else { return 1; } print(1); } else { if b { } return 1; }":                   false,
		"if true { return 1; }":                                                                                  false,
		"f(true);":                                                                                               false,
		"if b { if b { return 1; } else { return 1; } } else { if b { return 1; } else { } }":                    false,
		"if b { if b { return 1; } else { } } else { if b { return 1; } else { return 1; } }":                    false,
		"if b { if b { return 1; } else { return 1; } } else { if b { return 1; } else { print(1); return 1;} }": true,
	} {
		want := map[bool]api.Errno{true: api.OK, false: api.ErrFlow}[returns]
		says(t, "func f(b bool) int { "+text+" } func main() { }", 0, want)
		says(t, "func main() { } type T struct { a int; } func f(b bool) int { "+text+" }", 2, want)
		says(t, "func f(b bool) int { "+text+" } func main() { nope = 1; }", map[bool]int{true: 1}[returns], map[bool]api.Errno{true: api.ErrName, false: api.ErrFlow}[returns])
		says(t, "func f(b bool) int { nope = 1; "+text+" } func main() { }", 0, api.ErrName)
		says(t, "func f(b bool) int { print(true); "+text+" } func main() { }", 0, api.ErrType)
		if text != "" {
			says(t, "func f(b bool) int { "+text+" print(true); } func main() { }", 0, api.ErrType)
		}
		if returns {
			says(t, "func f(b bool) bool { "+text+" } func main() { }", 0, api.ErrType)
			says(t, "func f(b bool) bool { "+strings.NewReplacer("return 1", "return b", "return 2", "return !b").Replace(text)+" } func main() { }", 0, api.OK)
		}
		says(t, "func f(b bool) { "+strings.NewReplacer("return 1", "return", "return 2", "return").Replace(text)+" } func main() { }", 0, api.OK)
	}
}

// That a statement which is no if has a Body and an Else does not make it one that returns.
func TestFlowOfWhatIsNoIf(t *testing.T) {
	ret := []api.Stmt{{Kind: api.StReturn, Kids: []api.Exp{num(1)}}}
	for _, s := range []api.Stmt{{Kind: api.StFor, Kids: []api.Exp{truth(1)}}, {Kind: api.StPrint, Kids: []api.Exp{num(1)}}, {Kind: api.StCall, Call: "main"}} {
		s.Body, s.Else = ret, ret
		isWrong(t, api.Prog{Funcs: []api.Decl{{Name: "main"}, {Name: "f", Result: api.Type{Kind: api.TyInt}, Body: []api.Stmt{s}}}}, 1, api.ErrFlow)
	}
}
