package syntax_test

import (
	"math"
	"slices"
	"strings"
	"testing"

	"theodolite/api"
	"theodolite/syntax"
)

// P12.1

func TestExamples(t *testing.T) {
	y := un("-", variable("y"))
	isProgram(t, tokens("func main ( ) { x = 1 - 2 - 3 * - y ; }"), api.Prog{Funcs: []api.Decl{{Name: "main", Line: 1, Body: []api.Stmt{
		{Kind: api.StSet, Line: 6, Name: "x", Kids: []api.Exp{bin(bin(num(1), "-", num(2)), "-", bin(num(3), "*", y))}},
	}}}})
	stopsAt(t, tokens("func main ( ) { x = f ( 1 ) + 2 ; }"), 11)
	stopsAt(t, tokens("func"), 1)
	isProgram(t, nil, api.Prog{})
	isProgram(t, []api.Token{}, api.Prog{})
}

func TestTheWholesExample(t *testing.T) {
	isProgram(t, tokens("func f ( n int ) int { var y int = n + 1 ; return y ; } func main ( ) { var x int = 2 ; x = f ( x ) ; print ( x ) ; }"), api.Prog{Funcs: []api.Decl{
		{Name: "f", Line: 1, Params: []api.Param{{Name: "n", Type: api.Type{Kind: api.TyInt}}}, Result: api.Type{Kind: api.TyInt}, Body: []api.Stmt{
			{Kind: api.StVar, Line: 9, Name: "y", Type: api.Type{Kind: api.TyInt}, Kids: []api.Exp{bin(variable("n"), "+", num(1))}},
			{Kind: api.StReturn, Line: 17, Kids: []api.Exp{variable("y")}},
		}},
		{Name: "main", Line: 21, Body: []api.Stmt{
			{Kind: api.StVar, Line: 26, Name: "x", Type: api.Type{Kind: api.TyInt}, Kids: []api.Exp{num(2)}},
			{Kind: api.StCall, Line: 32, Name: "x", Call: "f", Kids: []api.Exp{variable("x")}},
			{Kind: api.StPrint, Line: 39, Kids: []api.Exp{variable("x")}},
		}},
	}})
}

// Structs, functions and kinds

func TestStructs(t *testing.T) {
	for text, want := range map[string][]api.Struct{
		"type T struct { }":                                      {{Name: "T"}},
		"type T struct { a int ; }":                              {{Name: "T", Fields: []string{"a"}}},
		"type T struct { b int ; a int ; b int ; }":              {{Name: "T", Fields: []string{"b", "a", "b"}}},
		"type T struct { T int ; } type T struct { }":            {{Name: "T", Fields: []string{"T"}}, {Name: "T"}},
		"type A struct { } type B struct { a int ; }":            {{Name: "A"}, {Name: "B", Fields: []string{"a"}}},
		"type A struct { " + strings.Repeat("a int ; ", 9) + "}": {{Name: "A", Fields: strings.Fields("a a a a a a a a a")}},
	} {
		isProgram(t, tokens(text), api.Prog{Structs: want})
	}
}

func TestStructsAndFunctionsInTheirOrder(t *testing.T) {
	a, b := api.Struct{Name: "A"}, api.Struct{Name: "B"}
	f, g := api.Decl{Name: "f", Line: 1}, api.Decl{Name: "g", Line: 1}
	sa, sb, tf, tg := "type A struct { } ", "type B struct { } ", "func f ( ) { } ", "func g ( ) { } "
	for text, want := range map[string]api.Prog{
		tf + tg:           {Funcs: []api.Decl{f, g}},
		tg + tf:           {Funcs: []api.Decl{g, f}},
		sb + tf + sa + tg: {Structs: []api.Struct{b, a}, Funcs: []api.Decl{f, g}},
		tg + sa + sb + tf: {Structs: []api.Struct{a, b}, Funcs: []api.Decl{g, f}},
		tf + sa + tf + sa: {Structs: []api.Struct{a, a}, Funcs: []api.Decl{f, f}},
	} {
		l := tokens(text)
		for i := range l {
			l[i].Line = 1
		}
		isProgram(t, l, want)
	}
}

// kinds are all the kinds, and how they stand.
func kinds() map[string]api.Type {
	return map[string]api.Type{
		"int": {Kind: api.TyInt}, "bool": {Kind: api.TyBool}, "T": {Kind: api.TyStruct, Name: "T"},
		"[ 4 ] int": {Kind: api.TyArray, N: 4}, "[ 0 ] int": {Kind: api.TyArray}, "[ 17 ] int": {Kind: api.TyArray, N: 17},
		"[ 9223372036854775807 ] int": {Kind: api.TyArray, N: math.MaxInt64},
	}
}

func TestKinds(t *testing.T) {
	for text, k := range kinds() {
		isProgram(t, tokens("func f ( ) { var x "+text+" ; }"), function(1, api.Stmt{Kind: api.StVar, Line: 6, Name: "x", Type: k}))
		isProgram(t, tokens("func f ( ) { var x "+text+" = 1 ; }"), function(1, api.Stmt{Kind: api.StVar, Line: 6, Name: "x", Type: k, Kids: []api.Exp{num(1)}}))
		isProgram(t, tokens("func f ( ) "+text+" { }"), api.Prog{Funcs: []api.Decl{{Name: "f", Line: 1, Result: k}}})
		isProgram(t, tokens("func f ( x "+text+" ) { }"), api.Prog{Funcs: []api.Decl{{Name: "f", Line: 1, Params: []api.Param{{Name: "x", Type: k}}}}})
		for other, o := range kinds() {
			isProgram(t, tokens("func f ( x "+text+" , y "+other+" , x "+text+" ) "+other+" { }"), api.Prog{Funcs: []api.Decl{{
				Name: "f", Line: 1, Result: o, Params: []api.Param{{Name: "x", Type: k}, {Name: "y", Type: o}, {Name: "x", Type: k}},
			}}})
		}
	}
}

func TestManyParameters(t *testing.T) {
	var want []api.Param
	text := ""
	for range 100 {
		want = append(want, api.Param{Name: "x", Type: api.Type{Kind: api.TyBool}})
		text += " , x bool"
		isProgram(t, tokens("func f ("+text[2:]+" ) { }"), api.Prog{Funcs: []api.Decl{{Name: "f", Line: 1, Params: want}}})
	}
}

// Statements

// statements are some of each sort, and what they are, without their lines.
func statements() map[string]api.Stmt {
	x, y := variable("x"), variable("y")
	return map[string]api.Stmt{
		"var x int ;":                           {Kind: api.StVar, Name: "x", Type: api.Type{Kind: api.TyInt}},
		"var x bool = y ;":                      {Kind: api.StVar, Name: "x", Type: api.Type{Kind: api.TyBool}, Kids: []api.Exp{y}},
		"var x [ 3 ] int = x + y ;":             {Kind: api.StVar, Name: "x", Type: api.Type{Kind: api.TyArray, N: 3}, Kids: []api.Exp{bin(x, "+", y)}},
		"var x x = ( y ) ;":                     {Kind: api.StVar, Name: "x", Type: api.Type{Kind: api.TyStruct, Name: "x"}, Kids: []api.Exp{y}},
		"x = y ;":                               {Kind: api.StSet, Name: "x", Kids: []api.Exp{y}},
		"x = y . z ;":                           {Kind: api.StSet, Name: "x", Kids: []api.Exp{field("y", "z")}},
		"x = y [ x ] ;":                         {Kind: api.StSet, Name: "x", Kids: []api.Exp{elem("y", x)}},
		"x = ( y ) ;":                           {Kind: api.StSet, Name: "x", Kids: []api.Exp{y}},
		"x [ 1 ] = 2 ;":                         {Kind: api.StElem, Name: "x", Kids: []api.Exp{num(1), num(2)}},
		"x [ x [ y ] ] = x [ x ] ;":             {Kind: api.StElem, Name: "x", Kids: []api.Exp{elem("x", y), elem("x", x)}},
		"x . y = 2 ;":                           {Kind: api.StField, Name: "x", Field: "y", Kids: []api.Exp{num(2)}},
		"x . x = x . x ;":                       {Kind: api.StField, Name: "x", Field: "x", Kids: []api.Exp{field("x", "x")}},
		"x = input ( ) ;":                       {Kind: api.StInput, Name: "x"},
		"g ( ) ;":                               {Kind: api.StCall, Call: "g"},
		"g ( x ) ;":                             {Kind: api.StCall, Call: "g", Kids: []api.Exp{x}},
		"g ( ( x ) , y , 1 + 2 ) ;":             {Kind: api.StCall, Call: "g", Kids: []api.Exp{x, y, bin(num(1), "+", num(2))}},
		"x = g ( ) ;":                           {Kind: api.StCall, Name: "x", Call: "g"},
		"x = x ( x ) ;":                         {Kind: api.StCall, Name: "x", Call: "x", Kids: []api.Exp{x}},
		"x = g ( 1 , 2 , 3 , 4 , 5 , 6 , 7 ) ;": {Kind: api.StCall, Name: "x", Call: "g", Kids: []api.Exp{num(1), num(2), num(3), num(4), num(5), num(6), num(7)}},
		"print ( x ) ;":                         {Kind: api.StPrint, Kids: []api.Exp{x}},
		"print ( ( x ) * ( y ) ) ;":             {Kind: api.StPrint, Kids: []api.Exp{bin(x, "*", y)}},
		"return ;":                              {Kind: api.StReturn},
		"return x ;":                            {Kind: api.StReturn, Kids: []api.Exp{x}},
		"return - ( x ) ;":                      {Kind: api.StReturn, Kids: []api.Exp{un("-", x)}},
		"if x { }":                              {Kind: api.StIf, Kids: []api.Exp{x}},
		"if x . y { } else { }":                 {Kind: api.StIf, Kids: []api.Exp{field("x", "y")}},
		"for x { }":                             {Kind: api.StFor, Kids: []api.Exp{x}},
		"for ( x ) { }":                         {Kind: api.StFor, Kids: []api.Exp{x}},
	}
}

// at is a statement, and those in it, in a line.
func at(line int, s api.Stmt) api.Stmt {
	s.Line = line
	return s
}

func TestStatements(t *testing.T) {
	for text, s := range statements() {
		n := len(strings.Fields(text))
		isProgram(t, tokens("func f ( ) { "+text+" }"), function(1, at(6, s)))
		isProgram(t, tokens("func f ( ) { "+text+" "+text+" }"), function(1, at(6, s), at(6+n, s)))
		isProgram(t, tokens("func f ( ) { if x { "+text+" } }"), function(1, api.Stmt{Kind: api.StIf, Line: 6, Kids: []api.Exp{variable("x")}, Body: []api.Stmt{at(9, s)}}))
		isProgram(t, tokens("func f ( ) { if x { } else { "+text+" } }"), function(1, api.Stmt{Kind: api.StIf, Line: 6, Kids: []api.Exp{variable("x")}, Else: []api.Stmt{at(12, s)}}))
		isProgram(t, tokens("func f ( ) { if x { "+text+" } else { "+text+" "+text+" } "+text+" }"), function(1,
			api.Stmt{Kind: api.StIf, Line: 6, Kids: []api.Exp{variable("x")}, Body: []api.Stmt{at(9, s)}, Else: []api.Stmt{at(12+n, s), at(12+2*n, s)}},
			at(13+3*n, s)))
		isProgram(t, tokens("func f ( ) { for x { "+text+" "+text+" } "+text+" }"), function(1,
			api.Stmt{Kind: api.StFor, Line: 6, Kids: []api.Exp{variable("x")}, Body: []api.Stmt{at(9, s), at(9+n, s)}},
			at(10+2*n, s)))
		isProgram(t, tokens("func f ( ) { } func f ( ) { "+text+" } type T struct { }"), api.Prog{Structs: []api.Struct{{Name: "T"}}, Funcs: []api.Decl{{Name: "f", Line: 1}, {Name: "f", Line: 7, Body: []api.Stmt{at(12, s)}}}})
	}
}

func TestStatementsBehindStatements(t *testing.T) {
	for text, s := range statements() {
		for behind, b := range statements() {
			n := len(strings.Fields(text))
			isProgram(t, tokens("func f ( ) { "+text+" "+behind+" }"), function(1, at(6, s), at(6+n, b)))
		}
	}
}

func TestIfsInIfs(t *testing.T) {
	x := []api.Exp{variable("x")}
	leaf := func(line int) []api.Stmt { return []api.Stmt{{Kind: api.StReturn, Line: line}} }
	is := func(line int, body, other []api.Stmt) []api.Stmt {
		return []api.Stmt{{Kind: api.StIf, Line: line, Kids: x, Body: body, Else: other}}
	}
	for text, want := range map[string][]api.Stmt{
		"if x { if x { return ; } else { } }":                                     is(6, is(9, leaf(12), nil), nil),
		"if x { if x { return ; } } else { }":                                     is(6, is(9, leaf(12), nil), nil),
		"if x { if x { return ; } } else { return ; }":                            is(6, is(9, leaf(12), nil), leaf(18)),
		"if x { if x { } else { return ; } }":                                     is(6, is(9, nil, leaf(15)), nil),
		"if x { } else { if x { return ; } }":                                     is(6, nil, is(12, leaf(15), nil)),
		"if x { } else { if x { } else { return ; } }":                            is(6, nil, is(12, nil, leaf(18))),
		"if x { if x { } else { return ; } } else { if x { return ; } else { } }": is(6, is(9, nil, leaf(15)), is(21, leaf(24), nil)),
	} {
		isProgram(t, tokens("func f ( ) { "+text+" }"), function(1, want...))
	}
	isProgram(t, tokens("func f ( ) { if x { for x { return ; } } else { } for x { if x { } else { return ; } } }"), function(1,
		is(6, []api.Stmt{{Kind: api.StFor, Line: 9, Kids: x, Body: leaf(12)}}, nil)[0],
		api.Stmt{Kind: api.StFor, Line: 19, Kids: x, Body: is(22, nil, leaf(28))}))
}

func TestLines(t *testing.T) {
	text := "func f ( ) { var x int = 1 ; x = 2 ; x [ 1 ] = 2 ; x . y = 1 ; g ( ) ; x = g ( ) ; if x { return ; } for x { print ( 1 ) ; } x = input ( ) ; }"
	for _, line := range []int{1, 0, -1, math.MaxInt, math.MinInt} {
		l := tokens(text)
		for i := range l {
			l[i].Line = line
		}
		x, _, e := syntax.Parse(l)
		if e != api.OK || x.Funcs[0].Line != line {
			t.Fatalf("line %d: %s, error %d", line, tell(x), e)
		}
		body := x.Funcs[0].Body
		for _, s := range slices.Concat(body, body[6].Body, body[7].Body) {
			if s.Line != line {
				t.Errorf("line %d: %d of statement %d", line, s.Line, s.Kind)
			}
		}
	}
	isProgram(t, lined("type T struct { } func f ( ) { x = 1 ; }", 9, 9, 9, 9, 9, 3, 2, 2, 2, 2, 7, 1, 1, 1, 1), api.Prog{
		Structs: []api.Struct{{Name: "T"}},
		Funcs:   []api.Decl{{Name: "f", Line: 3, Body: []api.Stmt{{Kind: api.StSet, Line: 7, Name: "x", Kids: []api.Exp{num(1)}}}}},
	})
}

// lined are tokens in these lines.
func lined(text string, lines ...int) []api.Token {
	l := tokens(text)
	for i := range lines {
		l[i].Line = lines[i]
	}
	return l
}

// Expressions

// isExpression: wherever an expression may stand, this text is that one.
func isExpression(t *testing.T, text string, want api.Exp) {
	t.Helper()
	n := len(strings.Fields(text))
	for _, c := range []struct {
		ahead, behind string
		s             api.Stmt
	}{
		{"x =", ";", api.Stmt{Kind: api.StSet, Name: "x", Kids: []api.Exp{want}}},
		{"var x int =", ";", api.Stmt{Kind: api.StVar, Name: "x", Type: api.Type{Kind: api.TyInt}, Kids: []api.Exp{want}}},
		{"x [", "] = 1 ;", api.Stmt{Kind: api.StElem, Name: "x", Kids: []api.Exp{want, num(1)}}},
		{"x [ 1 ] =", ";", api.Stmt{Kind: api.StElem, Name: "x", Kids: []api.Exp{num(1), want}}},
		{"x . y =", ";", api.Stmt{Kind: api.StField, Name: "x", Field: "y", Kids: []api.Exp{want}}},
		{"g (", ") ;", api.Stmt{Kind: api.StCall, Call: "g", Kids: []api.Exp{want}}},
		{"x = g ( 1 ,", ", 2 ) ;", api.Stmt{Kind: api.StCall, Name: "x", Call: "g", Kids: []api.Exp{num(1), want, num(2)}}},
		{"if", "{ }", api.Stmt{Kind: api.StIf, Kids: []api.Exp{want}}},
		{"for", "{ }", api.Stmt{Kind: api.StFor, Kids: []api.Exp{want}}},
		{"print (", ") ;", api.Stmt{Kind: api.StPrint, Kids: []api.Exp{want}}},
		{"return", ";", api.Stmt{Kind: api.StReturn, Kids: []api.Exp{want}}},
		{"x = (", ") ;", api.Stmt{Kind: api.StSet, Name: "x", Kids: []api.Exp{want}}},
		{"x = - (", ") ;", api.Stmt{Kind: api.StSet, Name: "x", Kids: []api.Exp{un("-", want)}}},
		{"x = a [", "] + 1 ;", api.Stmt{Kind: api.StSet, Name: "x", Kids: []api.Exp{bin(elem("a", want), "+", num(1))}}},
	} {
		isProgram(t, tokens("func f ( ) { "+c.ahead+" "+text+" "+c.behind+" }"), function(1, at(6, c.s)))
		long := len(strings.Fields(c.ahead)) + n
		stopsAt(t, tokens("func f ( ) { "+c.ahead+" "+text), 5+long)
		stopsAt(t, tokens("func f ( ) { "+c.ahead+" "+text+" input"), 5+long)
	}
}

// leaves are expressions without signs, and how they stand.
func leaves() map[string]api.Exp {
	return map[string]api.Exp{
		"0": num(0), "7": num(7), "9223372036854775807": num(math.MaxInt64), "true": truth(1), "false": truth(0),
		"x": variable("x"), "a [ 1 ]": elem("a", num(1)), "a [ b [ c ] ]": elem("a", elem("b", variable("c"))), "s . f": field("s", "f"), "s . s": field("s", "s"),
	}
}

func TestLeaves(t *testing.T) {
	for text, x := range leaves() {
		isExpression(t, text, x)
		isExpression(t, "( "+text+" )", x)
		isExpression(t, "( ( ( "+text+" ) ) )", x)
		isExpression(t, "a [ ( "+text+" ) ]", elem("a", x))
		for _, s := range []string{"-", "!"} {
			isExpression(t, s+" "+text, un(s, x))
			isExpression(t, s+" ( "+text+" )", un(s, x))
			isExpression(t, "( "+s+" "+text+" )", un(s, x))
			for _, o := range []string{"-", "!"} {
				isExpression(t, s+" "+o+" "+text, un(s, un(o, x)))
				isExpression(t, s+" ( "+o+" ( "+text+" ) )", un(s, un(o, x)))
			}
		}
	}
}

func allOps() []string { return strings.Fields("|| && == != < <= > >= + - * / %") }

func TestSignsBetween(t *testing.T) {
	a, b, c := variable("a"), variable("b"), variable("c")
	for _, s := range allOps() {
		isExpression(t, "a "+s+" b", bin(a, s, b))
		isExpression(t, "( a ) "+s+" ( b )", bin(a, s, b))
		isExpression(t, "( a "+s+" b )", bin(a, s, b))
		isExpression(t, "a "+s+" b "+s+" c", bin(bin(a, s, b), s, c))
		isExpression(t, "( a "+s+" b ) "+s+" c", bin(bin(a, s, b), s, c))
		isExpression(t, "a "+s+" ( b "+s+" c )", bin(a, s, bin(b, s, c)))
		for _, u := range []string{"-", "!"} {
			isExpression(t, u+" a "+s+" b", bin(un(u, a), s, b))
			isExpression(t, "a "+s+" "+u+" b", bin(a, s, un(u, b)))
			isExpression(t, u+" "+u+" a "+s+" "+u+" "+u+" b", bin(un(u, un(u, a)), s, un(u, un(u, b))))
			isExpression(t, u+" ( a "+s+" b )", un(u, bin(a, s, b)))
			isExpression(t, u+" a [ b ] "+s+" "+u+" s . f", bin(un(u, elem("a", b)), s, un(u, field("s", "f"))))
		}
		for text, x := range leaves() {
			isExpression(t, text+" "+s+" "+text, bin(x, s, x))
		}
		isExpression(t, "a [ b "+s+" c ] "+s+" c", bin(elem("a", bin(b, s, c)), s, c))
	}
}

// split is the expression of some with signs between: of the loosest signs the last one stands above all.
func split(l []api.Exp, ops []string) api.Exp {
	if len(ops) == 0 {
		return l[0]
	}
	k := 0
	for i, s := range ops {
		if bound(s) <= bound(ops[k]) {
			k = i
		}
	}
	return bin(split(l[:k+1], ops[:k]), ops[k], split(l[k+1:], ops[k+1:]))
}

func isChain(t *testing.T, ops ...string) {
	t.Helper()
	l := []api.Exp{variable("x0")}
	text := "x0"
	for i, s := range ops {
		name := "x" + string(rune('1'+i))
		l = append(l, variable(name))
		text += " " + s + " " + name
	}
	isProgram(t, tokens("func f ( ) { return "+text+" ; }"), function(1, api.Stmt{Kind: api.StReturn, Line: 6, Kids: []api.Exp{split(l, ops)}}))
}

func TestWhatBindsMore(t *testing.T) {
	few := []string{"||", "&&", "<", "-", "%"}
	for _, a := range allOps() {
		for _, b := range allOps() {
			isChain(t, a, b)
			for _, c := range allOps() {
				isChain(t, a, b, c)
			}
		}
	}
	for n := range 5 * 5 * 5 * 5 * 5 * 5 {
		var ops []string
		for range 6 {
			ops = append(ops, few[n%5])
			n /= 5
		}
		isChain(t, ops...)
	}
}

func TestExpressions(t *testing.T) {
	a, b, c, d := variable("a"), variable("b"), variable("c"), variable("d")
	isExpression(t, "a || b && c == d", bin(a, "||", bin(b, "&&", bin(c, "==", d))))
	isExpression(t, "a == b && c || d", bin(bin(bin(a, "==", b), "&&", c), "||", d))
	isExpression(t, "( a || b ) && c", bin(bin(a, "||", b), "&&", c))
	isExpression(t, "a < b < c", bin(bin(a, "<", b), "<", c))
	isExpression(t, "a - ( b - c ) - d", bin(bin(a, "-", bin(b, "-", c)), "-", d))
	isExpression(t, "- a * - b", bin(un("-", a), "*", un("-", b)))
	isExpression(t, "- ( a * - b )", un("-", bin(a, "*", un("-", b))))
	isExpression(t, "a - - b", bin(a, "-", un("-", b)))
	isExpression(t, "! a == ! b", bin(un("!", a), "==", un("!", b)))
	isExpression(t, "a * ( b + c ) / d", bin(bin(a, "*", bin(b, "+", c)), "/", d))
	isExpression(t, "( ( a ) + ( ( b ) ) )", bin(a, "+", b))
	isExpression(t, "a [ a [ ( b ) + 1 ] - c ] + d", bin(elem("a", bin(elem("a", bin(b, "+", num(1))), "-", c)), "+", d))
	isExpression(t, "a [ - b || c ] && d . d", bin(elem("a", bin(un("-", b), "||", c)), "&&", field("d", "d")))
	isExpression(t, "- a [ b ]", un("-", elem("a", b)))
	isExpression(t, "! ! ( ! a )", un("!", un("!", un("!", a))))
}

// Where parsing stops

func TestStops(t *testing.T) {
	for text, want := range map[string]int{
		// Between declarations
		"x": 0, "1": 0, ";": 0, "}": 0, "var": 0, "struct": 0, "func f ( ) { } ;": 6, "func f ( ) { } }": 6, "func f ( ) { } x": 6, "type T struct { } ;": 5, "type T struct { } }": 5, "func f ( ) { } func": 7, "func f ( ) { } type T struct { } f": 11, "if x { }": 0, "( )": 0,
		// Structs
		"type": 1, "type T": 2, "type T struct": 3, "type T struct {": 4, "type T struct { a": 5, "type T struct { a int": 6, "type T struct { a int ;": 7, "type struct": 1, "type int": 1, "type 1": 1, "type T {": 2, "type T T": 2, "type T struct a": 3, "type T struct { int": 4, "type T struct { ;": 4, "type T struct { a bool ; }": 5, "type T struct { a ;": 5, "type T struct { a T ; }": 5, "type T struct { a [ 2 ] int ; }": 5, "type T struct { a int }": 6, "type T struct { a int , b int ; }": 6, "type T struct { a int ; ; }": 7, "type T struct { a int ; b }": 8,
		// Functions
		"func f": 2, "func f (": 3, "func f ( a": 4, "func f ( a int": 5, "func f ( a int ,": 6, "func f ( a int )": 6, "func f ( )": 4, "func f ( ) int": 5, "func f ( ) {": 5, "func main ( {": 3, "func ( )": 1, "func int ( )": 1, "func 1": 1, "func f { }": 2, "func f ( a ) { }": 4, "func f ( a , b int ) { }": 4, "func f ( int ) { }": 3, "func f ( a int , ) { }": 6, "func f ( a int b int ) { }": 5, "func f ( , ) { }": 3, "func f ( a int ; b int ) { }": 5, "func f ( a struct ) { }": 4, "func f ( ) ;": 4, "func f ( ) ( ) { }": 4, "func f ( ) int bool { }": 5, "func f ( ) T . U { }": 5, "func f ( ) func": 4, "func f ( ) var": 4, "func f ( ) true { }": 4, "func f ( ) 4 { }": 4,
		// Kinds
		"func f ( ) [": 5, "func f ( ) [ 4": 6, "func f ( ) [ 4 ]": 7, "func f ( ) [ 4 ] int": 8, "func f ( ) [ ] int { }": 5, "func f ( ) [ n ] int { }": 5, "func f ( ) [ - 4 ] int { }": 5, "func f ( ) [ 4 + 1 ] int { }": 6, "func f ( ) [ 4 ] bool { }": 7, "func f ( ) [ 4 ] T { }": 7, "func f ( ) [ 4 ] [ 4 ] int { }": 7, "func f ( ) [ 4 ] { }": 7, "func f ( a [ 4 ] bool )": 7, "func f ( ) { var a [ 2 ] bool ; }": 10,
		// Lists of statements
		"func f ( ) { ; }": 5, "func f ( ) { { } }": 5, "func f ( ) { 1 ; }": 5, "func f ( ) { ( x ) = 1 ; }": 5, "func f ( ) { - x ; }": 5, "func f ( ) { func g ( ) { } }": 5, "func f ( ) { type T struct { } }": 5, "func f ( ) { true ; }": 5, "func f ( ) { else { } }": 5, "func f ( ) { input ( ) ; }": 5, "func f ( ) { int x ; }": 5, "func f ( ) { x = 1 ; ; }": 9, "func f ( ) { x = 1 ; } }": 10, "func f ( ) { x = 1 ;": 9, "func f ( ) { return ; } }": 8,
	} {
		stopsAt(t, tokens(text), want)
	}
}

func TestWhereStatementsStop(t *testing.T) {
	for text, want := range map[string]int{
		// Vars
		"var": 1, "var x": 2, "var x int": 3, "var x int =": 4, "var x int = 1": 5, "var int": 1, "var 1": 1, "var x ;": 2, "var x = 1 ;": 2, "var x , y int ;": 2, "var x int , y int ;": 3, "var x int 1": 3, "var x int = ;": 4, "var x int = 1 , 2 ;": 5, "var x int = f ( 1 ) ;": 5, "var x int = input ( ) ;": 4, "var x int = y = 1 ;": 5, "var x [ 2 ] int = { 1 } ;": 7, "var x T . y ;": 3, "var x struct": 2, "var x . y int ;": 2, "var x [ 2 ] = 1 ;": 5, "var x int == 1 ;": 3,
		// Those that begin with a name
		"x": 1, "x =": 2, "x = 1": 3, "x ;": 1, "x }": 1, "x x": 1, "x == 1 ;": 1, "x + 1 ;": 1, "x , y = 1 ;": 1, "x = ;": 2, "x = }": 2, "x = 1 }": 3, "x = 1 , 2 ;": 3, "x = 1 2 ;": 3, "x = y z ;": 3, "x = y = 1 ;": 3, "x = 1 = y ;": 3, "x = y [ 1 ] = 2 ;": 6, "x = - = 1 ;": 3, "x = if": 2, "x = var": 2, "x = { } ;": 2, "x = [ 1 ] ;": 2, "x = int ;": 2, "x = print ( 1 ) ;": 2, "x = * y ;": 2, "x = + y ;": 2, "x = . y ;": 2, "x = 1 . y ;": 3, "x = true . y ;": 3, "x = 1 [ 2 ] ;": 3, "x = true ( ) ;": 3, "x = 1 ( 2 ) ;": 3,
		"x [": 2, "x [ 1": 3, "x [ 1 ]": 4, "x [ 1 ] =": 5, "x [ 1 ] = 2": 6, "x [ ] = 1 ;": 2, "x [ 1 ] ;": 4, "x [ 1 = 2 ;": 3, "x [ 1 ) = 2 ;": 3, "x [ 1 ; ] = 2 ;": 3, "x [ 1 , 2 ] = 2 ;": 3, "x [ 1 ] [ 2 ] = 3 ;": 4, "x [ 1 ] . y = 3 ;": 4, "x [ 1 ] ( ) ;": 4, "x [ 1 ] = ;": 5, "x [ 1 ] = f ( 2 ) ;": 6, "x [ 1 ] = input ( ) ;": 5, "x [ 1 ] == 2 ;": 4, "x [ 1 ] + 2 ;": 4, "x [ f ( 1 ) ] = 2 ;": 3, "x [ input ( ) ] = 2 ;": 2, "x [ 1 ] ] = 2 ;": 4, "x [ ( 1 ] = 2 ;": 4,
		"x .": 2, "x . y": 3, "x . y =": 4, "x . y = 1": 5, "x . 1 = 1 ;": 2, "x . int = 1 ;": 2, "x . y ;": 3, "x . y . z = 1 ;": 3, "x . y [ 1 ] = 1 ;": 3, "x . y ( ) ;": 3, "x . y = ;": 4, "x . y = f ( 1 ) ;": 5, "x . y = input ( ) ;": 4, "x . [ 1 ] = 1 ;": 2,
		// Inputs
		"x = input": 3, "x = input (": 4, "x = input ( )": 5, "x = input ;": 3, "x = input [ 1 ] ;": 3, "x = input . y ;": 3, "x = input ( 1 ) ;": 4, "x = input ( x ) ;": 4, "x = input ( ) + 1 ;": 5, "x = input ( ) . y ;": 5, "x = input ( ) ( ) ;": 5, "x = 1 + input ( ) ;": 4, "x = - input ( ) ;": 3, "x = ( input ( ) ) ;": 3, "x = input ( , ) ;": 4,
		// Calls
		"f (": 2, "f ( 1": 3, "f ( 1 ,": 4, "f ( 1 )": 4, "f ( )": 3, "f ( ) }": 3, "f ( , ) ;": 2, "f ( 1 , ) ;": 4, "f ( 1 2 ) ;": 3, "f ( 1 ; 2 ) ;": 3, "f ( 1 ] ;": 3, "f ( , 1 ) ;": 2, "f ( 1 , , 2 ) ;": 4, "f ( ) = 1 ;": 3, "f ( ) + 1 ;": 3, "f ( ) ( ) ;": 3, "f ( ) . x ;": 3, "f ( ) [ 1 ] ;": 3, "f ( g ( ) ) ;": 3, "f ( 1 + g ( ) ) ;": 5, "f ( input ( ) ) ;": 2, "f ( int ) ;": 2, "f ( x = 1 ) ;": 3, "f ( ( 1 , 2 ) ) ;": 4, "f ( a [ 1 , 2 ] ) ;": 5,
		"x = f": 3, "x = f (": 4, "x = f ( 1": 5, "x = f ( 1 ,": 6, "x = f ( 1 )": 6, "x = f ( )": 5, "x = f ( , ) ;": 4, "x = f ( 1 , ) ;": 6, "x = f ( ) + 1 ;": 5, "x = f ( 1 ) + 2 ;": 6, "x = f ( ) ( ) ;": 5, "x = f ( ) [ 1 ] ;": 5, "x = f ( ) . y ;": 5, "x = f ( g ( 1 ) ) ;": 5, "x = 1 + f ( ) ;": 5, "x = - f ( ) ;": 4, "x = ( f ( ) ) ;": 4, "x = ( f ) ( ) ;": 5, "x = f . g ( ) ;": 5, "x = f [ 1 ] ( ) ;": 6, "x = f ( ) , 1 ;": 5, "x = f ( 1 ] ;": 5,
		// Ifs and fors
		"if": 1, "if x": 2, "if x {": 3, "if x { } else": 5, "if x { } else {": 6, "if { }": 1, "if x ;": 2, "if ( x ) x = 1 ;": 4, "if x { } else if y { }": 5, "if x { } else ;": 5, "if x { } else x = 1 ;": 5, "if x { } ;": 4, "if x { } else { } else { }": 7, "if x { } else { } ;": 7, "if x = 1 { }": 2, "if f ( ) { }": 2, "if input ( ) { }": 1, "if x ; y { }": 2, "if x { 1 ; }": 3, "if x { x = 1 }": 6, "if x , y { }": 2, "if x ) { }": 2, "if if x { }": 1, "if T { a }": 4, "if x { else { } }": 3,
		"for": 1, "for x": 2, "for x {": 3, "for { }": 1, "for x ;": 2, "for ; x ; { }": 1, "for x = 1 { }": 2, "for x { } else { }": 4, "for x { } ;": 4, "for f ( ) { }": 2, "for x { ; }": 3, "for var x int = 1 { }": 1, "for input ( ) { }": 1, "for x < 1 ; { }": 4, "for x { if x { } else { } else { } }": 10, "for x { if x { } for x { } else { } }": 11,
		// Prints and returns
		"print": 1, "print (": 2, "print ( 1": 3, "print ( 1 )": 4, "print ;": 1, "print 1 ;": 1, "print x": 1, "print ( ) ;": 2, "print ( 1 , 2 ) ;": 3, "print ( 1 ) + 2 ;": 4, "print ( f ( 1 ) ) ;": 3, "print ( input ( ) ) ;": 2, "print ( 1 ) }": 4, "print ( 1 ; ) ;": 3, "print ( 1 ] ;": 3, "print = 1 ;": 1, "print [ 1 ] = 1 ;": 1,
		"return": 1, "return 1": 2, "return }": 1, "return 1 }": 2, "return 1 , 2 ;": 2, "return x = 1 ;": 2, "return f ( 1 ) ;": 2, "return input ( ) ;": 1, "return return ;": 1, "return 1 2 ;": 2, "return ( ) ;": 2, "return { } ;": 1, "return = 1 ;": 1, "return if": 1,
	} {
		for ahead, n := range map[string]int{"": 0, "x = 1 ;": 4, "if x {": 3, "if x { } else {": 6, "for x { return ; if x {": 8, "if x { } f ( 1 , 2 ) ;": 11} {
			stopsAt(t, tokens("func f ( ) { "+ahead+" "+text), 5+n+want)
		}
	}
}

func TestWhereExpressionsStop(t *testing.T) {
	for text, want := range map[string]int{
		"(": 1, "( 1": 2, "( )": 1, "( 1 ]": 2, "( 1 ;": 2, "( 1 ,": 2, "( 1 {": 2, "( 1 = 2 )": 2, "( 1 ) )": 3, "( ( 1 )": 4, "( ( 1 ) ;": 4, "( 1 ) 2": 3, "( x ) ( 1 )": 3, "( x ) . y": 3, "( x ) [ 1 ]": 3, "( 1 + )": 3, "( + 1 )": 1, "( - )": 2, "( 1 2 )": 2, "( 1 ) ( 2 )": 3,
		"-": 1, "!": 1, "- ;": 1, "- -": 2, "- * 1": 1, "- )": 1, "! = 1": 1, "- + 1": 1, "- ( 1": 3, "! ! ;": 2, "- 1 1": 2, "! x !": 2, "x ! y": 1, "x !": 1, "x - !": 3,
		"1 +": 2, "1 + ;": 2, "1 + + 1": 2, "1 + * 1": 2, "1 * / 1": 2, "1 && || 1": 2, "1 == == 1": 2, "1 <= > 1": 2, "1 + )": 2, "1 )": 1, "1 ]": 1, "1 }": 1, "1 true": 1, "x x": 1, "true false": 1, "1 (": 1, "1 . 2": 1, "1 [": 1, "true [ 1 ]": 1,
		"a [": 2, "a [ 1": 3, "a [ ]": 2, "a [ 1 )": 3, "a [ 1 ;": 3, "a [ 1 ,": 3, "a [ 1 ] [ 2 ]": 4, "a [ 1 ] . b": 4, "a [ 1 ] (": 4, "a [ 1 ] 2": 4, "a [ b [ 1 ]": 6, "a [ b [ 1 ] ;": 6, "a [ ( 1 ]": 4, "( a [ 1 ) ]": 4, "a [ ( b [ 1 ] ]": 7, "a [ f ( 1 ) ]": 3, "a [ - ]": 3, "a [ 1 + ]": 4,
		"s .": 2, "s . 1": 2, "s . ;": 2, "s . true": 2, "s . f . g": 3, "s . f [ 1 ]": 3, "s . f (": 3, "s . f g": 3, "s . ( f )": 2, "s . int": 2,
		"1 = 2": 1, "1 , 2": 1, "x if": 1, "else": 0, "int": 0, "input": 0, "func": 0, "struct": 0, "= 1": 0, ", 1": 0, ") ;": 0, "] ;": 0, "{ } ;": 0, "} ;": 0, ". x": 0, "* 1": 0, "&& 1": 0, "< 1": 0, "+ 1": 0, "print ( 1 )": 0, "var": 0, "return": 0,
	} {
		stopsAt(t, tokens("func f ( ) { return "+text), 6+want)
		stopsAt(t, tokens("func f ( ) { var x [ 3 ] int = "+text), 12+want)
		stopsAt(t, tokens("func f ( ) { x . y = 2 - 3 * "+text), 13+want)
		stopsAt(t, tokens("func f ( ) { x . y = ! "+text), 10+want)
	}
}
