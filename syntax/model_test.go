package syntax_test

import (
	"fmt"
	"slices"
	"strconv"
	"strings"
	"testing"

	"theodolite/api"
	"theodolite/syntax"
)

// The chapter's language once more, as its own text, and which beginnings it allows by charts: for each place all the rules that may be under way there. Its rules have big letters here, to part them from its words.
const language = `
Program = { Struct | Func }
Struct  = type N struct "{" { N int ; } "}"
Func    = func N ( [ N Kind { , N Kind } ] ) [ Kind ] Block
Kind    = int | bool | "[" D "]" int | N
Block   = "{" { Stmt } "}"
Stmt    = var N Kind [ = Exp ] ; | N = Exp ; | N "[" Exp "]" = Exp ; | N . N = Exp ; | N = input ( ) ; | N ( [ Exp { , Exp } ] ) ; | N = N ( [ Exp { , Exp } ] ) ; | if Exp Block [ else Block ] | for Exp Block | print ( Exp ) ; | return [ Exp ] ;
Exp     = Exp Op Exp | Un Exp | D | true | false | N | N "[" Exp "]" | N . N | ( Exp )
Op      = "|" "|" | && | == | != | < | <= | > | >= | + | - | * | / | %
Un      = - | !
`

// part of a rule: another one, or a token, which is told as the language tells it.
type part struct {
	rule  string
	token string
}

// grammar has for each rule its ways; those that it makes itself, for what stands in brackets, have numbers as names.
type grammar map[string][][]part

func grammarOf(text string) grammar {
	g := grammar{}
	for line := range strings.Lines(strings.TrimSpace(text)) {
		f := strings.Fields(strings.ReplaceAll(line, `"|" "|"`, `"||"`))
		rest := f[2:]
		g[f[0]] = g.ways(&rest, "")
	}
	return g
}

// ways reads ways with | between, up to the sign that ends them.
func (g grammar) ways(rest *[]string, end string) [][]part {
	l := [][]part{nil}
	for len(*rest) > 0 {
		s := (*rest)[0]
		*rest = (*rest)[1:]
		here := &l[len(l)-1]
		switch {
		case s == end:
			return l
		case s == "|":
			l = append(l, nil)
		case s == "[", s == "{":
			name := strconv.Itoa(len(g) + 1000)
			g[name] = nil
			inner := g.ways(rest, map[string]string{"[": "]", "{": "}"}[s])
			if s == "{" {
				for i := range inner {
					inner[i] = append(inner[i], part{rule: name})
				}
			}
			g[name] = append(inner, nil)
			*here = append(*here, part{rule: name})
		case s[0] >= 'A' && s[0] <= 'Z' && len(s) > 1:
			*here = append(*here, part{rule: s})
		default:
			*here = append(*here, part{token: strings.Trim(s, `"`)})
		}
	}
	return l
}

// told is how the language tells a token; "" of one that it does not have.
func told(t api.Token) string {
	switch {
	case t.Kind == api.TokName:
		return "N"
	case t.Kind == api.TokNum:
		return "D"
	case t.Kind == api.TokWord && slices.Contains(allWords(), t.Text), t.Kind == api.TokSign && slices.Contains(allSigns(), t.Text):
		return t.Text
	}
	return ""
}

// item is a way of a rule, up to where it is gone through, and the place where it began.
type item struct {
	rule      string
	way, dot  int
	beganAtOf int
}

// chart has for each place its items.
type chart struct {
	g    grammar
	sets [][]item
}

func newChart() *chart {
	c := &chart{g: grammarOf(language)}
	var first []item
	for w := range c.g["Program"] {
		first = append(first, item{rule: "Program", way: w})
	}
	c.sets = [][]item{c.closed(first, 0)}
	return c
}

// next is the part that an item waits for; none, if it is gone through.
func (c *chart) next(x item) part {
	way := c.g[x.rule][x.way]
	if x.dot == len(way) {
		return part{}
	}
	return way[x.dot]
}

// closed is items with all those that come of them at a place.
func (c *chart) closed(l []item, at int) []item {
	seen := map[item]bool{}
	var out []item
	add := func(x item) {
		if !seen[x] {
			seen[x] = true
			out = append(out, x)
		}
	}
	for _, x := range l {
		add(x)
	}
	empty := map[string]bool{} // rules that come to nothing here
	for i := 0; i < len(out); i++ {
		x := out[i]
		p := c.next(x)
		switch {
		case p.rule != "":
			for w := range c.g[p.rule] {
				add(item{rule: p.rule, way: w, beganAtOf: at})
			}
			if empty[p.rule] {
				add(item{x.rule, x.way, x.dot + 1, x.beganAtOf})
			}
		case p.token == "":
			began := out
			if x.beganAtOf < at {
				began = c.sets[x.beganAtOf]
			} else {
				empty[x.rule] = true
			}
			for _, y := range began {
				if c.next(y).rule == x.rule {
					add(item{y.rule, y.way, y.dot + 1, y.beganAtOf})
				}
			}
		}
	}
	return out
}

// push tells whether what was pushed may go on with a token, and pushes it then.
func (c *chart) push(t api.Token) bool {
	var l []item
	s := told(t)
	for _, x := range c.sets[len(c.sets)-1] {
		if s != "" && c.next(x).token == s {
			l = append(l, item{x.rule, x.way, x.dot + 1, x.beganAtOf})
		}
	}
	if len(l) > 0 {
		c.sets = append(c.sets, c.closed(l, len(c.sets)))
	}
	return len(l) > 0
}

func (c *chart) pop() { c.sets = c.sets[:len(c.sets)-1] }

// whole tells whether what was pushed is a program.
func (c *chart) whole() bool {
	return slices.ContainsFunc(c.sets[len(c.sets)-1], func(x item) bool {
		return x.rule == "Program" && x.beganAtOf == 0 && c.next(x) == part{}
	})
}

// longest is how many tokens the longest beginning has that is one of a program, and whether all of them are one.
func longest(l []api.Token) (n int, whole bool) {
	c := newChart()
	for n < len(l) && c.push(l[n]) {
		n++
	}
	return n, n == len(l) && c.whole()
}

// What is asked of the call.

// isProgram: the tokens are just this program.
func isProgram(t *testing.T, l []api.Token, want api.Prog) {
	t.Helper()
	if x, at, e := syntax.Parse(l); !sameProg(x, want) || at != 0 || e != api.OK {
		t.Fatalf("Parse(%s): %s, %d, error %d, not %s", short(l), tell(x), at, e, tell(want))
	}
}

// stopsAt: of the tokens so many are the longest beginning.
func stopsAt(t *testing.T, l []api.Token, want int) {
	t.Helper()
	if x, at, e := syntax.Parse(l); !sameProg(x, api.Prog{}) || at != want || e != api.ErrSyntax {
		t.Fatalf("Parse(%s): %s, %d, error %d, not %d, error %d", short(l), tell(x), at, e, want, api.ErrSyntax)
	}
}

func isTooDeep(t *testing.T, l []api.Token) {
	t.Helper()
	if x, at, e := syntax.Parse(l); !sameProg(x, api.Prog{}) || at != 0 || e != api.ErrDeep {
		t.Fatalf("Parse(%s): %s, %d, error %d, not error %d", short(l), tell(x), at, e, api.ErrDeep)
	}
}

// isAsTheLanguageSays tells as well whether the tokens are a program (of which the tree is not looked at here, but where there is none).
func isAsTheLanguageSays(t *testing.T, l []api.Token) bool {
	t.Helper()
	n, whole := longest(l)
	if !whole {
		stopsAt(t, l, n)
		return false
	}
	if x, at, e := syntax.Parse(l); at != 0 || e != api.OK && (e != api.ErrDeep || !sameProg(x, api.Prog{})) {
		t.Fatalf("Parse(%s): %d, error %d of a program", short(l), at, e)
	}
	return true
}

// What is the same, but for lists that are nil or empty.

func sameExps(a, b []api.Exp) bool {
	return slices.EqualFunc(a, b, func(x, y api.Exp) bool {
		return x.Kind == y.Kind && x.Num == y.Num && x.Name == y.Name && x.Field == y.Field && x.Op == y.Op && sameExps(x.Kids, y.Kids)
	})
}

func sameStmts(a, b []api.Stmt) bool {
	return slices.EqualFunc(a, b, func(x, y api.Stmt) bool {
		return x.Kind == y.Kind && x.Line == y.Line && x.Name == y.Name && x.Field == y.Field && x.Call == y.Call && x.Type == y.Type && sameExps(x.Kids, y.Kids) && sameStmts(x.Body, y.Body) && sameStmts(x.Else, y.Else)
	})
}

func sameProg(a, b api.Prog) bool {
	return slices.EqualFunc(a.Structs, b.Structs, func(x, y api.Struct) bool {
		return x.Name == y.Name && slices.Equal(x.Fields, y.Fields)
	}) && slices.EqualFunc(a.Funcs, b.Funcs, func(x, y api.Decl) bool {
		return x.Name == y.Name && x.Line == y.Line && x.Result == y.Result && slices.Equal(x.Params, y.Params) && sameStmts(x.Body, y.Body)
	})
}

func tell(x api.Prog) string {
	s := fmt.Sprintf("%+v", x)
	return s[:min(len(s), 4000)]
}

func short(l []api.Token) string {
	var s []string
	for _, t := range l[:min(len(l), 80)] {
		s = append(s, fmt.Sprintf("%d:%q", t.Kind, t.Text))
	}
	return strings.Join(s, " ")
}

// Tokens.

func allWords() []string {
	return strings.Fields("type struct func var if else for return print input int bool true false")
}

func allSigns() []string {
	return strings.Fields("&& || == != <= >= ( ) { } [ ] , ; . = + - * / % < > !")
}

// tokens are those of a text in which blanks part them, each in a line of its own: 1, 2, and so on.
func tokens(text string) []api.Token {
	var l []api.Token
	for i, s := range strings.Fields(text) {
		t := api.Token{Kind: api.TokSign, Text: s, Line: i + 1}
		n, err := strconv.ParseInt(s, 10, 64)
		switch {
		case err == nil:
			t.Kind, t.Num = api.TokNum, n
		case slices.Contains(allWords(), s):
			t.Kind = api.TokWord
		case !slices.Contains(allSigns(), s):
			t.Kind = api.TokName
		}
		l = append(l, t)
	}
	return l
}

// fits are tokens of all sorts that the language has, one of each.
func fits() []api.Token {
	return tokens("a 7 " + strings.Join(allWords(), " ") + " " + strings.Join(allSigns(), " "))
}

// strange are tokens that the language does not have.
func strange() []api.Token {
	l := []api.Token{{}, {Text: "a"}, {Text: ";"}, {Text: "if"}, {Kind: 5, Text: "a"}, {Kind: 255, Text: "}"}, {Kind: 0, Num: 7}}
	for _, s := range []string{"", "a", "If", "int ", "while", "{", ";", "7", "-"} {
		l = append(l, api.Token{Kind: api.TokWord, Text: s})
	}
	for _, s := range []string{"", "a", "&", "|", "===", "((", "( ", "//", ":=", "if", "true", "int", "7"} {
		l = append(l, api.Token{Kind: api.TokSign, Text: s})
	}
	return l
}

// dice answers numbers below n that look thrown, the same ones each time.
func dice(seed uint64) func(n int) int {
	return func(n int) int {
		seed = seed*6364136223846793005 + 1442695040888963407
		return int(seed >> 33 % uint64(n))
	}
}
