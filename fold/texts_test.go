package fold_test

import (
	"slices"
	"strconv"
	"strings"
	"testing"

	"theodolite/api"
)

// Sources that look thrown.

func TestTexts(t *testing.T) {
	next := dice(23)
	ends := map[byte]int{}
	var reckoned, forks, gone int
	for range 1500 {
		w := &writer{next: next}
		u := source(t, "func main() { var a int = 2; var b int = 1; "+w.list(4, []string{"a", "b"})+" print(a - b); }")
		var in []int64
		for range next(20) {
			in = append(in, int64(next(9)-4))
		}
		r := run{300, in}
		got := isRight(t, u, r, run{next(40), in})
		s := traceOf(got, r)
		ends[s[len(s)-1]]++
		was, is := countOf(u), countOf(got)
		reckoned += is.consts - was.consts
		forks += was.forks - is.forks
		gone += was.blocks - is.blocks
	}
	if reckoned < 10000 || forks < 3000 || gone < 5000 || ends['H'] < 200 || ends['F'] < 40 || ends['I'] < 40 || ends['D'] < 40 {
		t.Errorf("%d Consts more, %d jumps more, %d blocks gone, %v ended so", reckoned, forks, gone, ends)
	}
}

// count is how many of some things a unit has.
type count struct{ blocks, consts, forks, phis int }

func countOf(u api.Unit) (c count) {
	for _, f := range u.Funcs {
		c.blocks += len(f.Blocks)
		for _, b := range f.Blocks {
			if b.Term.Kind == api.TermIf {
				c.forks++
			}
			for _, i := range b.Ins {
				switch i.Op {
				case api.InsConst:
					c.consts++
				case api.InsPhi:
					c.phis++
				}
			}
		}
	}
	return c
}

// writer writes a function's statements.
type writer struct {
	next func(int) int
	vars int // how many it has declared
}

// list is a list of statements, with these variables in scope.
func (w *writer) list(deep int, in []string) string {
	one := func() string {
		if w.next(3) == 0 {
			return strconv.Itoa(w.next(4))
		}
		return in[w.next(len(in))]
	}
	some := func() string { return in[w.next(len(in))] }
	sign := func(signs ...string) string { return " " + signs[w.next(len(signs))] + " " }
	value := func() string { return "(" + one() + sign("+", "-", "*", "+", "-", "*", "/", "%") + "-" + one() + ")" }
	is := func() string {
		s := one() + sign("<", "<=", ">", ">=", "==", "!=") + value()
		if w.next(4) == 0 {
			s = "!(" + s + ")" + sign("&&", "||") + one() + " < " + one()
		}
		return s
	}
	inner := func() string { return " { " + w.list(deep-1, in) + "} " }
	var s strings.Builder
	for range 1 + w.next(5) {
		kind := w.next(9)
		if deep == 0 && kind > 5 {
			kind -= 4
		}
		if kind < 2 && w.vars > api.MaxVars/2 {
			kind += 2
		}
		switch kind {
		case 0, 1:
			v := "v" + strconv.Itoa(w.vars)
			w.vars++
			s.WriteString("var " + v + " int = " + value() + "; ")
			in = append(slices.Clone(in), v)
		case 2, 3:
			s.WriteString(some() + " = " + value() + "; ")
		case 4:
			s.WriteString(some() + " = input(); ")
		case 5:
			s.WriteString("print(" + value() + "); ")
		case 6:
			s.WriteString("if " + is() + inner())
		case 7:
			s.WriteString("if " + is() + inner() + "else" + inner())
		default:
			s.WriteString("for " + is() + inner())
		}
	}
	return s.String()
}
