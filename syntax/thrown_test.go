package syntax_test

import (
	"math"
	"slices"
	"strings"
	"testing"

	"theodolite/api"
	"theodolite/syntax"
)

// thrower makes trees that look thrown.
type thrower func(n int) int

func (next thrower) name() string {
	return []string{"a", "b", "x", "y1", "main", "_", "T", "int", "if", "(", "9", "", "é "}[next(13)]
}

// called is a name that is there: a call without one has no place for its result.
func (next thrower) called() string {
	for {
		if s := next.name(); s != "" {
			return s
		}
	}
}

func (next thrower) number() int64 {
	return []int64{0, 1, 2, 7, 16, 1 << 40, math.MaxInt64, -1, math.MinInt64}[next(9)]
}

func (next thrower) kind() api.Type {
	switch next(4) {
	case 0:
		return api.Type{Kind: api.TyInt}
	case 1:
		return api.Type{Kind: api.TyBool}
	case 2:
		return api.Type{Kind: api.TyArray, N: int(next.number())}
	}
	return api.Type{Kind: api.TyStruct, Name: next.name()}
}

func (next thrower) exp(deep int) api.Exp {
	kind := 1 + next(7)
	if deep <= 1 {
		kind = []int{1, 2, 3, 5}[next(4)]
	}
	switch uint8(kind) {
	case api.ExpNum:
		return num(next.number())
	case api.ExpBool:
		return truth(int64(next(2)))
	case api.ExpVar:
		return variable(next.name())
	case api.ExpElem:
		return elem(next.name(), next.exp(deep-1))
	case api.ExpField:
		return field(next.name(), next.name())
	case api.ExpUn:
		return un([]string{"-", "!"}[next(2)], next.exp(deep-1))
	}
	return bin(next.exp(deep-1), allOps()[next(13)], next.exp(deep-1))
}

func (next thrower) exps(n, deep int) (l []api.Exp) {
	for range n {
		l = append(l, next.exp(deep))
	}
	return l
}

func (next thrower) statement(deep, inner int) api.Stmt {
	s := api.Stmt{Kind: uint8(1 + next(10))}
	for deep <= 1 && (s.Kind == api.StIf || s.Kind == api.StFor) {
		s.Kind = uint8(1 + next(10))
	}
	n := 1
	switch s.Kind {
	case api.StVar:
		s.Name, s.Type = next.name(), next.kind()
		n = next(2)
	case api.StSet:
		s.Name = next.name()
	case api.StElem:
		s.Name = next.name()
		n = 2
	case api.StField:
		s.Name, s.Field = next.name(), next.name()
	case api.StCall:
		s.Call = next.name()
		if next(2) > 0 {
			s.Name = next.called()
		}
		n = next(4)
	case api.StIf:
		s.Body, s.Else = next.statements(deep-1, inner), next.statements(deep-1, inner)
	case api.StFor:
		s.Body = next.statements(deep-1, inner)
	case api.StInput:
		s.Name = next.name()
		n = 0
	case api.StReturn:
		n = next(2)
	}
	s.Kids = next.exps(n, inner)
	return s
}

func (next thrower) statements(deep, inner int) (l []api.Stmt) {
	for range next(4) {
		l = append(l, next.statement(deep, inner))
	}
	return l
}

func (next thrower) program(deep, inner int) (x api.Prog) {
	for range next(3) {
		s := api.Struct{Name: next.name()}
		for range next(4) {
			s.Fields = append(s.Fields, next.name())
		}
		x.Structs = append(x.Structs, s)
	}
	for range next(3) {
		f := api.Decl{Name: next.name(), Body: next.statements(deep, inner)}
		for range next(4) {
			f.Params = append(f.Params, api.Param{Name: next.name(), Type: next.kind()})
		}
		if next(2) > 0 {
			f.Result = next.kind()
		}
		x.Funcs = append(x.Funcs, f)
	}
	return x
}

// laid is a program as tokens, in lines that look thrown, sometimes with parentheses more.
func (next thrower) laid(x api.Prog) ([]api.Token, api.Prog) {
	more := []int{1, 1, 4, 20}[next(4)]
	return laid(x, func() int { return next(1000) - 10 }, func() int { return max(0, next(more)-more+3) * next(2) })
}

// noise is what tokens do not count by: numbers of names, words and signs, and texts of numbers.
func (next thrower) noise(l []api.Token) []api.Token {
	l = slices.Clone(l)
	for i := range l {
		if l[i].Kind == api.TokNum {
			l[i].Text = []string{"", "7", "x", "(", "if"}[next(5)]
		} else {
			l[i].Num = next.number()
		}
	}
	return l
}

// A program that is laid out as tokens is parsed to itself, with any parentheses more.
func TestProgramsThatAreLaid(t *testing.T) {
	next := thrower(dice(1))
	whole, long := 0, 0
	for i := range 6000 {
		x := next.program(1+i%4, 1+i%6)
		l, want := next.laid(x)
		isProgram(t, l, want)
		isProgram(t, next.noise(l), want)
		l, want = lay(x)
		isProgram(t, l, want)
		if len(x.Funcs) > 0 {
			whole++
		}
		long = max(long, len(l))
	}
	if whole < 2000 || long < 300 {
		t.Errorf("%d had functions, and the longest one %d tokens", whole, long)
	}
}

// Expressions of all forms that have few parts.
func TestAllSmallExpressions(t *testing.T) {
	ops := []string{"||", "&&", "==", "-", "/"}
	var of func(n int) []api.Exp
	of = func(n int) (l []api.Exp) {
		if n == 1 {
			return []api.Exp{num(1), variable("x"), field("s", "f")}[:2]
		}
		for _, x := range of(n - 1) {
			l = append(l, un("-", x), elem("a", x))
		}
		for k := 1; k < n-1; k++ {
			for _, x := range of(k) {
				for _, y := range of(n - 1 - k) {
					for _, s := range ops {
						l = append(l, bin(x, s, y))
					}
				}
			}
		}
		return l
	}
	for n := 1; n <= 6; n++ {
		for _, x := range of(n) {
			l, want := lay(function(0, api.Stmt{Kind: api.StReturn, Kids: []api.Exp{x}}))
			isProgram(t, l, want)
		}
	}
}

// Trees that are about as deep as they may be.
func TestProgramsThatAreDeep(t *testing.T) {
	next := thrower(dice(2))
	seen := map[bool]int{}
	for range 800 {
		x := function(0, next.spine(38+next(3), 38+next(4)))
		l, want := next.laid(x)
		deep := tooDeep(x.Funcs[0].Body)
		seen[deep]++
		if deep {
			isTooDeep(t, l)
		} else {
			isProgram(t, l, want)
		}
	}
	if seen[true] < 200 || seen[false] < 200 {
		t.Errorf("%v were too deep", seen)
	}
}

// spine is a statement that is so deep or a little deeper, with expressions that are.
func (next thrower) spine(deep, inner int) api.Stmt {
	s := next.statement(1, 2)
	if len(s.Kids) > 0 {
		s.Kids[next(len(s.Kids))] = next.needle(inner - next(3))
	}
	for deep--; deep > 0; deep-- {
		l := append(next.statements(1, 1), s)
		l = append(l, next.statements(1, 1)...)
		switch next(3) {
		case 0:
			s = api.Stmt{Kind: api.StFor, Body: l}
		case 1:
			s = api.Stmt{Kind: api.StIf, Body: l, Else: next.statements(2, 1)}
		case 2:
			s = api.Stmt{Kind: api.StIf, Body: next.statements(2, 1), Else: l}
		}
		s.Kids = []api.Exp{next.exp(1)}
		if next(30) == 0 {
			s.Kids = []api.Exp{next.needle(inner)}
		}
	}
	return s
}

// needle is an expression that is so deep or a little deeper.
func (next thrower) needle(deep int) api.Exp {
	x := next.exp(1 + next(2))
	for deep--; deep > 0; deep-- {
		switch next(4) {
		case 0:
			x = un([]string{"-", "!"}[next(2)], x)
		case 1:
			x = elem(next.name(), x)
		case 2:
			x = bin(x, allOps()[next(13)], next.exp(2))
		case 3:
			x = bin(next.exp(2), allOps()[next(13)], x)
		}
	}
	return x
}

// Where parsing stops the tokens ahead could have gone on; no others could behind the one that is told.

func TestBeginningsOfPrograms(t *testing.T) {
	next := thrower(dice(3))
	for range 400 {
		l, _ := next.laid(next.program(3, 3))
		l = l[:min(len(l), 60)]
		for n := range l {
			isAsTheLanguageSays(t, l[:n])
		}
	}
}

// One token of a program's, or of a beginning's, is another one, too many, or missing, or two are one for the other.
func TestOneTokenTurned(t *testing.T) {
	next := thrower(dice(4))
	all := append(fits(), strange()...)
	seen := map[bool]int{}
	for range 6000 {
		l, _ := next.laid(next.program(2, 3))
		l = l[:min(len(l), 40+next(20))]
		if len(l) < 2 {
			continue
		}
		i, k := next(len(l)), next(len(l))
		x := all[next(len(all))]
		other := slices.Clone(l)
		other[i], other[k] = other[k], other[i]
		for _, s := range [][]api.Token{
			slices.Concat(l[:i], []api.Token{x}, l[i+1:]), slices.Concat(l[:i], []api.Token{x}, l[i:]), slices.Concat(l[:i], l[i+1:]), slices.Concat(l[:i], []api.Token{l[k]}, l[i:]), other,
		} {
			seen[isAsTheLanguageSays(t, s)]++
		}
	}
	if seen[true] < 500 || seen[false] < 5000 {
		t.Errorf("%v were programs", seen)
	}
}

// A token counts by its kind and its text: the text alone is not enough.
func TestKindsOfTokens(t *testing.T) {
	l := tokens("type T struct { a int ; } func f ( x bool , y [ 4 ] int ) T { var z int = - 1 + a [ s . f ] ; if true { z = input ( ) ; } else { z = g ( 1 , 2 ) ; } for ! false { print ( ( 7 ) ) ; return z ; } a [ 0 ] = 1 ; s . f = 2 ; g ( ) ; }")
	if !isAsTheLanguageSays(t, l) {
		t.Fatal("the sample is no program")
	}
	for i := range l {
		for _, kind := range []uint8{0, 1, 2, 3, 4, 5, 8, 16, 32, 64, 128, 255} {
			turned := slices.Clone(l)
			turned[i].Kind = kind
			isAsTheLanguageSays(t, turned)
		}
		for _, x := range strange() {
			stopsAt(t, slices.Concat(l[:i], []api.Token{x}, l[i:]), i)
			stopsAt(t, slices.Concat(l[:i], []api.Token{x}), i)
		}
		for _, x := range fits() {
			isAsTheLanguageSays(t, slices.Concat(l[:i], []api.Token{x}, l[i+1:]))
		}
	}
}

// explorer goes through all beginnings of programs that begin so, and tries each token behind them.
type explorer struct {
	t     *testing.T
	c     *chart
	all   []api.Token
	tried int
}

func (x *explorer) through(l []api.Token, left int) {
	for _, k := range x.all {
		x.tried++
		s := append(slices.Clip(l), k)
		if !x.c.push(k) {
			stopsAt(x.t, s, len(l))
			if left == 1 {
				stopsAt(x.t, append(s, x.all...), len(l))
			}
			continue
		}
		if !x.c.whole() {
			stopsAt(x.t, s, len(s))
		} else if p, at, e := syntax.Parse(s); at != 0 || e != api.OK || len(p.Funcs)+len(p.Structs) == 0 {
			x.t.Fatalf("Parse(%s): %d, error %d", short(s), at, e)
		}
		if left > 1 {
			x.through(s, left-1)
		}
		x.c.pop()
	}
}

func explore(t *testing.T, ahead string, all []api.Token, left int) {
	t.Helper()
	x := &explorer{t: t, c: newChart(), all: all}
	l := tokens(ahead)
	for _, k := range l {
		if !x.c.push(k) {
			t.Fatalf("%s: no beginning", ahead)
		}
	}
	x.through(l, left)
	t.Logf("behind %q: %d tried", ahead, x.tried)
}

func TestAllBeginnings(t *testing.T) {
	every := append(fits(), strange()...)
	explore(t, "", every, 8)
	explore(t, "type T struct {", every, 8)
	explore(t, "func f (", every, 6)
	explore(t, "func f ( )", every, 5)
	explore(t, "func f ( ) {", every, 4)
	for _, ahead := range []string{"if x {", "if x { } else {", "for x { if x { } else { x = 1 ; }", "var x", "x = f", "x [ 1", "x [ 1 ] =", "x . y =", "f (", "f ( 1 ,", "x = f (", "if x", "for", "print (", "return", "x = input", "x = a [", "x = - ( 1"} {
		explore(t, "func f ( ) { "+ahead, every, 3)
	}
}

func TestAllBeginningsOfFewTokens(t *testing.T) {
	explore(t, "func f ( ) {", tokens("a = ( ) ; 1 - }"), 9)
	explore(t, "func f ( ) {", tokens("a [ ] . = 1 ; ( )"), 8)
	explore(t, "func f ( ) {", tokens("if else { } a for"), 12)
	explore(t, "func f ( ) {", tokens("a = input ( ) ; return , + }"), 8)
	explore(t, "func f ( ) { return", tokens("a 1 ( ) [ ] * -"), 7)
	explore(t, "func f ( ) { var x", tokens("int [ 2 ] = - ; T }"), 8)
	explore(t, "", tokens("func f ( ) , int { } ;"), 12)
	explore(t, "", tokens("type T struct { a int ; }"), 16)
}

// W5: any tokens end.
func TestAnyTokens(t *testing.T) {
	next := thrower(dice(5))
	all := append(fits(), strange()...)
	starts := []string{"", "func f ( ) {", "func f ( ) { x = ", "func f ( ", "type T struct { a int ;", "func f ( ) { if x { } else { f ( 1 ,"}
	for range 20000 {
		l := tokens(starts[next(len(starts))])
		for range next(10) {
			l = append(l, all[next(len(all))])
		}
		isAsTheLanguageSays(t, l)
	}
}

// A token counts by its kind: what is a name, and how long it may be, is asked where the tokens come from.
func TestNamesOfAnyText(t *testing.T) {
	for _, s := range []string{"", " ", "if", "input", "(", ";", "true", "9", "é", "\x00", strings.Repeat("n", 1000)} {
		n := api.Token{Kind: api.TokName, Text: s, Line: 1}
		l := lined("func f ( n n ) n { n = n . n ; n [ n ] = n ; n . n = n ; n ( n ) ; var n n ; }")
		for i := range l {
			if l[i].Line = 1; l[i].Text == "n" {
				l[i] = n
			}
		}
		k, v := api.Type{Kind: api.TyStruct, Name: s}, variable(s)
		isProgram(t, l, api.Prog{Funcs: []api.Decl{{Name: "f", Line: 1, Params: []api.Param{{Name: s, Type: k}}, Result: k, Body: []api.Stmt{
			{Kind: api.StSet, Line: 1, Name: s, Kids: []api.Exp{field(s, s)}},
			{Kind: api.StElem, Line: 1, Name: s, Kids: []api.Exp{v, v}},
			{Kind: api.StField, Line: 1, Name: s, Field: s, Kids: []api.Exp{v}},
			{Kind: api.StCall, Line: 1, Call: s, Kids: []api.Exp{v}},
			{Kind: api.StVar, Line: 1, Name: s, Type: k},
		}}}})
	}
}

func TestNumbersOfAnySize(t *testing.T) {
	for _, n := range []int64{0, 1, -1, math.MaxInt64, math.MinInt64, 1 << 32} {
		l := tokens("func f ( x [ 7 ] int ) { print ( 7 ) ; }")
		for i := range l {
			if l[i].Line = 1; l[i].Kind == api.TokNum {
				l[i].Num = n
			}
		}
		isProgram(t, l, api.Prog{Funcs: []api.Decl{{Name: "f", Line: 1, Params: []api.Param{{Name: "x", Type: api.Type{Kind: api.TyArray, N: int(n)}}}, Body: []api.Stmt{{Kind: api.StPrint, Line: 1, Kids: []api.Exp{num(n)}}}}}})
	}
}
