package syntax_test

import (
	"slices"
	"strings"
	"testing"

	"theodolite/api"
	"theodolite/syntax"
)

// shapes are texts of expressions that are so deep, each in another way.
func shapes(deep int) map[string]string {
	n := deep - 1
	half := n / 2
	return map[string]string{
		"signs ahead":           strings.Repeat("- ", n) + "1",
		"both signs ahead":      strings.Repeat("! - ", n)[:2*n] + "true",
		"from the left on":      "1" + strings.Repeat(" + 1", n),
		"from the right on":     strings.Repeat("1 + ( ", n) + "1" + strings.Repeat(" )", n),
		"within the left side":  strings.Repeat("( ", n) + "x" + strings.Repeat(" * x )", n),
		"indices":               strings.Repeat("a [ ", n) + "s . f" + strings.Repeat(" ]", n),
		"signs, then indices":   strings.Repeat("- ", half) + strings.Repeat("a [ ", n-half) + "1" + strings.Repeat(" ]", n-half),
		"indices, then signs":   strings.Repeat("a [ ", half) + strings.Repeat("! ", n-half) + "1" + strings.Repeat(" ]", half),
		"on the right side":     "1 - ( " + strings.Repeat("- ", n-1) + "1 )",
		"on the left side":      "( " + strings.Repeat("- ", n-1) + "1 ) - 1",
		"in the middle":         "1 < 2 + " + strings.Repeat("- ", n-3) + "1 < 3",
		"with parentheses more": strings.Repeat("- ( ( ", n) + "1" + strings.Repeat(" ) )", n),
		"of two both":           strings.Repeat("- ", n-1) + "1 * " + strings.Repeat("- ", n-1) + "1",
		"what binds more":       strings.Repeat("1 || ( 1 && ( ", half) + strings.Repeat("- ", n-2*half) + "1" + strings.Repeat(" ) )", half),
	}
}

// depth is an expression's, as the chapter has it.
func depth(x api.Exp) int {
	d := 0
	for _, k := range x.Kids {
		d = max(d, depth(k))
	}
	return d + 1
}

// deepest are the depths of the deepest one of some statements, and of the deepest expression of these and those in them.
func deepest(l []api.Stmt) (statement, expression int) {
	for _, s := range l {
		inner, innerExp := deepest(slices.Concat(s.Body, s.Else))
		statement, expression = max(statement, inner+1), max(expression, innerExp)
		for _, x := range s.Kids {
			expression = max(expression, depth(x))
		}
	}
	return statement, expression
}

// tooDeep tells whether something in some statements is deeper than it may be.
func tooDeep(l []api.Stmt) bool {
	s, x := deepest(l)
	return s > 40 || x > 40
}

// isAsDeep: tokens are a program that is too deep, or one that is not.
func isAsDeep(t *testing.T, l []api.Token, deep bool) {
	t.Helper()
	if deep {
		isTooDeep(t, l)
		return
	}
	x, at, e := syntax.Parse(l)
	if at != 0 || e != api.OK || len(x.Funcs) == 0 {
		t.Fatalf("Parse(%s): %d, error %d", short(l), at, e)
	}
	for _, f := range x.Funcs {
		if tooDeep(f.Body) {
			t.Fatalf("Parse(%s): a program that is too deep", short(l))
		}
	}
}

// Expressions

func TestHowDeepAnExpressionMayBe(t *testing.T) {
	const most = api.MaxDepth
	for _, n := range []int{most - 2, most - 1, most, most + 1, most + 2, 2 * most, 200} {
		for what, text := range shapes(n) {
			l := tokens("func f ( ) { return " + text + " ; }")
			if n <= most {
				x, _, e := syntax.Parse(l)
				if e != api.OK || depth(x.Funcs[0].Body[0].Kids[0]) != n {
					t.Errorf("%d, %s: %s, error %d", n, what, tell(x), e)
				}
			}
			isAsDeep(t, l, n > most)
		}
	}
}

func TestDeepExpressionsEachWhere(t *testing.T) {
	for n, deep := range map[int]bool{api.MaxDepth: false, api.MaxDepth + 1: true} {
		for _, text := range shapes(n) {
			for _, around := range [][2]string{
				{"x =", ";"}, {"var x int =", ";"}, {"x [", "] = 1 ;"}, {"x [ 1 ] =", ";"}, {"x . y =", ";"}, {"g (", ") ;"}, {"g ( 1 ,", ") ;"}, {"g (", ", 1 ) ;"}, {"x = g (", ") ;"}, {"x = g ( 1 , 2 ,", ", 3 ) ;"},
				{"if", "{ }"}, {"for", "{ }"}, {"if", "{ } else { }"}, {"if", "{ x = 1 ; } else { }"}, {"print (", ") ;"}, {"return", ";"},
				{"if x { return", "; }"}, {"if x { } else { return", "; }"}, {"for x { return", "; }"}, {"if x { x = 1 ; } else { x = 1 ; for x { x = 1 ; return", "; } }"}, {"x = 1 ;  if x { } return", "; x = 1 ;"}, {"if x { if", "{ } }"}, {"x = (", ") ;"},
			} {
				for _, f := range []string{"func f ( ) {", "func f ( ) { } func f ( ) {", "type T struct { } func f ( ) { return 1 ; } func g ( a int ) int {"} {
					for _, behind := range []string{"}", "} func f ( ) { }", "x = 1 ; } type T struct { }"} {
						isAsDeep(t, tokens(f+" "+around[0]+" "+text+" "+around[1]+" "+behind), deep)
					}
				}
			}
		}
	}
}

func TestParenthesesAreNotDeep(t *testing.T) {
	for _, n := range []int{1, 39, 40, 41, 100, 5000} {
		left, right := strings.Repeat("( ", n), strings.Repeat(" )", n)
		for text, want := range map[string]api.Exp{
			left + "1" + right: num(1),
			left + "x" + right + " + " + left + "x" + right:   bin(variable("x"), "+", variable("x")),
			"- " + left + "- x" + right:                       un("-", un("-", variable("x"))),
			"a [ " + left + "x" + right + " ]":                elem("a", variable("x")),
			left + "a [ " + left + "x" + right + " ]" + right: elem("a", variable("x")),
		} {
			isProgram(t, tokens("func f ( ) { return "+text+" ; }"), function(1, api.Stmt{Kind: api.StReturn, Line: 6, Kids: []api.Exp{want}}))
		}
		stopsAt(t, tokens("func f ( ) { return "+left+"1 ;"), 7+n)
		stopsAt(t, tokens("func f ( ) { return "+left+"1"+right+" ) ;"), 7+2*n)
	}
}

// Many statements, arguments and parts are not deep either.
func TestManyAreNotDeep(t *testing.T) {
	const n = 500
	for _, text := range []string{
		strings.Repeat("x = 1 ; ", n), strings.Repeat("if x { } ", n), strings.Repeat("if x { y = 1 ; } else { for x { } } ", n), "f ( 1" + strings.Repeat(" , - 1", n) + " ) ;",
	} {
		isAsDeep(t, tokens("func f ( ) { "+text+" }"), false)
	}
	isAsDeep(t, tokens(strings.Repeat("func f ( ) { if x { return 1 ; } } ", n)), false)
	wide := strings.Repeat("1 * 1 + ", 39) + "1" // 40 parts, of which the last but one is above all others
	isAsDeep(t, tokens("func f ( ) { return "+wide+" ; }"), true)
	isAsDeep(t, tokens("func f ( ) { return "+wide[8:]+" ; }"), false)
}

// Statements

// towers are texts of statements that are so deep.
func towers(deep int) map[string]string {
	n := deep - 1
	return map[string]string{
		"for":         strings.Repeat("for x { ", n) + "x = 1 ;" + strings.Repeat(" }", n),
		"if":          strings.Repeat("if x { ", n) + "return ;" + strings.Repeat(" }", n),
		"else":        strings.Repeat("if x { } else { ", n) + "return ;" + strings.Repeat(" }", n),
		"both":        strings.Repeat("if x { y = 1 ; } else { ", n) + "return ;" + strings.Repeat(" }", n),
		"else behind": strings.Repeat("if x { ", n) + "return ;" + strings.Repeat(" } else { y = 1 ; }", n),
		"mixed":       strings.Repeat("for x { if x { } else { ", n/2) + strings.Repeat("if x { ", n%2) + "f ( ) ;" + strings.Repeat(" }", n),
		"empty for":   strings.Repeat("for x { ", deep) + strings.Repeat(" }", deep),
		"empty if":    strings.Repeat("if x { ", deep) + strings.Repeat(" } else { }", deep),
		"empty else":  strings.Repeat("if x { } else { ", deep) + strings.Repeat(" }", deep),
		"the last":    strings.Repeat("if x { x = 1 ; for x { x = 1 ; } ", n-1) + "for x { x = 1 ; } " + strings.Repeat(" }", n-1),
		"the first":   strings.Repeat("if x { ", n) + "x = 1 ;" + strings.Repeat(" x = 1 ; }", n),
	}
}

func TestHowDeepAStatementMayBe(t *testing.T) {
	const most = api.MaxDepth
	for _, n := range []int{most - 2, most - 1, most, most + 1, most + 2, 2 * most, 200} {
		for what, text := range towers(n) {
			for _, around := range [][2]string{{"", ""}, {"x = 1 ; ", ""}, {"", " x = 1 ; if x { }"}, {"} func g ( ) { ", ""}, {"", " } func g ( ) { "}} {
				l := tokens("func f ( ) { " + around[0] + text + around[1] + " }")
				isAsDeep(t, l, n > most)
				if n > most {
					continue
				}
				x, _, e := syntax.Parse(l)
				first, _ := deepest(x.Funcs[0].Body)
				last, _ := deepest(x.Funcs[len(x.Funcs)-1].Body)
				if max(first, last) != n {
					t.Errorf("%d, %s: %s, error %d", n, what, tell(x), e)
				}
			}
		}
	}
}

// Both may be as deep as they may: an expression's depth is not its statement's.
func TestDeepExpressionsInDeepStatements(t *testing.T) {
	const most = api.MaxDepth
	for inner, innerDeep := range map[int]bool{most: false, most + 1: true} {
		for outer, outerDeep := range map[int]bool{most: false, most + 1: true} {
			ahead, behind := strings.Repeat("for x { ", outer-1), strings.Repeat(" }", outer-1)
			for _, text := range shapes(inner) {
				isAsDeep(t, tokens("func f ( ) { "+ahead+"x = "+text+" ;"+behind+" }"), innerDeep || outerDeep)
				isAsDeep(t, tokens("func f ( ) { "+ahead+"if "+text+" { }"+behind+" }"), innerDeep || outerDeep)
			}
		}
	}
}

// What is no program is that first, however deep it is.
func TestErrSyntaxIsAheadOfErrDeep(t *testing.T) {
	for _, n := range []int{api.MaxDepth, api.MaxDepth + 1, 300} {
		for _, l := range []map[string]string{shapes(n), towers(n)} {
			for _, text := range l {
				s := "func f ( ) { " + text + " }"
				if !strings.Contains(text, ";") && !strings.Contains(text, "{") {
					s = "func f ( ) { x = " + text + " ; }"
				}
				all := tokens(s)
				for _, k := range []int{len(all) - 1, len(all) - 2, len(all) - 3, len(all) / 2} {
					stopsAt(t, all[:k], k)
					stopsAt(t, append(slices.Clone(all[:k]), strange()...), k)
				}
				stopsAt(t, append(slices.Clone(all), tokens("}")...), len(all))
				stopsAt(t, append(slices.Clone(all), tokens("func f ( ) { x = ; }")...), len(all)+7)
				stopsAt(t, append(slices.Clone(all), tokens("type T")...), len(all)+2)
			}
		}
	}
}

// R1: there is no bound to how deep tokens go.

const great = 20000

// many are tokens of a text, so many times over.
func many(n int, text string) []api.Token { return slices.Repeat(tokens(text), n) }

func TestGreatExpressions(t *testing.T) {
	ahead := tokens("func f ( ) { return")
	for _, c := range []struct {
		left, mid, right string
		deep             bool
	}{
		{"(", "1", ")", false}, {"-", "1", "", true}, {"!", "x", "", true}, {"a [", "1", "]", true}, {"- (", "1", ")", true}, {"1 + (", "1", ")", true}, {"", "1", "+ 1", true}, {"", "1", "* 1 + 1", true}, {"( 1 +", "1", ")", true}, {"( (", "1", ") - 1 )", true}, {"1 || 1 && 1 == 1 + 1 * (", "1", ")", true},
	} {
		left, mid, right := many(great, c.left), tokens(c.mid), many(great, c.right)
		l := slices.Concat(ahead, left, mid, right, tokens("; }"))
		isAsDeep(t, l, c.deep)
		stopsAt(t, l[:len(l)-1], len(l)-1)
		n := len(ahead) + len(left)
		stopsAt(t, l[:n], n)
		stopsAt(t, append(slices.Clip(l[:n]), tokens("}")...), n)
	}
}

func TestGreatStatements(t *testing.T) {
	ahead := tokens("func f ( ) {")
	for _, c := range []struct {
		left, mid, right string
		deep             bool
	}{
		{"for x {", "x = 1 ;", "}", true}, {"if x {", "", "}", true}, {"if x { } else {", "", "}", true}, {"if x {", "", "} else { }", true}, {"if x { y = 1 ; } else { for x {", "", "} }", true}, {"x = 1 ;", "", "if x { }", false}, {"", "", "if x { } else { return ; }", false},
	} {
		l := slices.Concat(ahead, many(great, c.left), tokens(c.mid), many(great, c.right), tokens("}"))
		isAsDeep(t, l, c.deep)
		stopsAt(t, l[:len(l)-1], len(l)-1)
		stopsAt(t, append(l, tokens("}")...), len(l))
		n := len(ahead) + len(many(great, c.left))
		stopsAt(t, l[:n], n)
	}
}

// So great that calls in calls would not do.
func TestTheGreatest(t *testing.T) {
	const n = 1 << 20
	l := slices.Concat(tokens("func f ( ) { return"), many(n, "("), tokens("x"), many(n, ")"), tokens("; }"))
	if x, at, e := syntax.Parse(l); at != 0 || e != api.OK || !sameExps(x.Funcs[0].Body[0].Kids, []api.Exp{variable("x")}) {
		t.Errorf("%d parentheses: %d, error %d", n, at, e)
	}
	isTooDeep(t, slices.Concat(tokens("func f ( ) {"), many(n, "for x {"), many(n, "}"), tokens("}")))
}

func TestGreatPrograms(t *testing.T) {
	for _, c := range []struct{ ahead, one, behind string }{
		{"", "func f ( ) { }", ""}, {"", "type T struct { }", ""}, {"type T struct {", "a int ;", "}"}, {"func f ( a int", ", b bool", ") { }"}, {"func f ( ) { g ( 1", ", x", ") ; }"},
	} {
		l := slices.Concat(tokens(c.ahead), many(great, c.one), tokens(c.behind))
		if x, at, e := syntax.Parse(l); at != 0 || e != api.OK || len(x.Funcs)+len(x.Structs) == 0 {
			t.Errorf("%s: %d, error %d", c.one, at, e)
		}
		stopsAt(t, append(l, tokens(";")...), len(l))
	}
}
