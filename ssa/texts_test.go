package ssa_test

import (
	"slices"
	"strconv"
	"strings"
	"testing"

	"theodolite/api"
)

// Sources that look thrown.

func TestTexts(t *testing.T) {
	next := dice(23)
	ends := map[byte]int{}
	phis := 0
	for range 1500 {
		w := &writer{next: next}
		u := source(t, "func main() { var a int = 0; var b int = 1; "+w.list(4, []string{"a", "b"})+" print(a - b); }")
		var in []int64
		for range next(20) {
			in = append(in, int64(next(9)-4))
		}
		r := run{300, in}
		got := isRight(t, u, r, run{next(40), in})
		s := traceOf(got, r)
		ends[s[len(s)-1]]++
		phis += phisOfUnit(got)
	}
	if phis < 5000 || ends['H'] < 200 || ends['F'] < 40 || ends['I'] < 40 || ends['D'] < 40 {
		t.Errorf("%d Phis, %v ended so", phis, ends)
	}
}

// writer writes a function's statements.
type writer struct {
	next func(int) int
	vars int // how many it has declared
}

// list is a list of statements, with these variables in scope.
func (w *writer) list(deep int, in []string) string {
	one := func() string { return in[w.next(len(in))] }
	value := func() string { return one() + []string{" + ", " - ", " * ", " / "}[(w.next(13)+3)/5] + one() }
	inner := func() string { return " { " + w.list(deep-1, in) + "} " }
	var s strings.Builder
	for range 1 + w.next(5) {
		kind := w.next(9)
		if deep == 0 && kind > 5 {
			kind -= 4
		}
		if kind < 2 && w.vars > api.MaxVars/2 {
			kind += 2
		}
		switch kind {
		case 0, 1:
			v := "v" + strconv.Itoa(w.vars)
			w.vars++
			s.WriteString("var " + v + " int = " + value() + "; ")
			in = append(slices.Clone(in), v)
		case 2, 3:
			s.WriteString(one() + " = " + value() + "; ")
		case 4:
			s.WriteString(one() + " = input(); ")
		case 5:
			s.WriteString("print(" + one() + "); ")
		case 6:
			s.WriteString("if " + one() + " < " + value() + inner())
		case 7:
			s.WriteString("if " + one() + " == " + one() + inner() + "else" + inner())
		default:
			s.WriteString("for " + one() + " > " + value() + inner())
		}
	}
	return s.String()
}
