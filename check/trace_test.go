package check_test

import (
	"fmt"
	"math"
	"strings"
	"testing"

	"theodolite/api"
)

// What the program says: trees are gone through as the chapter has it, and their traces told as texts.

// walk is a tree that is gone through.
type walk struct {
	x     api.Tree
	in    []int64
	fuel  int
	trace []string
}

// ended is thrown at the end.
type ended struct{}

// frame is a function that is under way: the words of its variables.
type frame [][]int64

// traceOf is a tree's trace with these inputs and that fuel: M a Mark with its point and what is known there, O what is printed, C a call, B the way back from it, H, D, X, I and F the ends.
func traceOf(x api.Tree, fuel int, in ...int64) string {
	w := &walk{x: x, in: in, fuel: fuel}
	func() {
		defer func() {
			if thrown := recover(); thrown != nil {
				_ = thrown.(ended)
			}
		}()
		w.call(x.Main, nil)
		w.end("H")
	}()
	return strings.Join(w.trace, " ")
}

func (w *walk) say(s string, more ...any) { w.trace = append(w.trace, fmt.Sprintf(s, more...)) }

func (w *walk) end(s string) {
	w.say("%s", s)
	panic(ended{})
}

func (w *walk) mark(point int, f frame) {
	if w.fuel == 0 {
		w.end("F")
	}
	w.fuel--
	p := w.x.Points[point]
	s := fmt.Sprintf("M%d", point)
	for _, v := range p.Scope {
		if k := w.x.Bodies[p.Func].Vars[v].Type.Kind; k == api.TyInt || k == api.TyBool {
			s += fmt.Sprintf(",%d=%d", v, f[v][0])
		}
	}
	w.say("%s", s)
}

func (w *walk) call(n int, args []int64) (back int64) {
	b := w.x.Bodies[n]
	f := frame{}
	for i, v := range b.Vars {
		f = append(f, make([]int64, v.Words))
		if i < b.Params {
			f[i][0] = args[i]
		}
	}
	back, _ = w.list(b.Acts, f)
	return back
}

// list does a list, and tells whether the function ended in it.
func (w *walk) list(l []api.Act, f frame) (back int64, is bool) {
	for _, a := range l {
		if back, is = w.act(a, f); is {
			return back, true
		}
	}
	return 0, false
}

func (w *walk) act(a api.Act, f frame) (back int64, is bool) {
	w.mark(a.Point, f)
	kid := func(i int) int64 { return w.value(a.Kids[i], f) }
	switch a.Kind {
	case api.StVar:
		clear(f[a.Var])
		if len(a.Kids) > 0 {
			f[a.Var][0] = kid(0)
		}
	case api.StSet:
		f[a.Var][0] = kid(0)
	case api.StElem:
		at, n := kid(0), kid(1)
		*w.word(f[a.Var], at) = n
	case api.StField:
		f[a.Var][a.Field] = kid(0)
	case api.StCall:
		var args []int64
		for i := range a.Kids {
			args = append(args, kid(i))
		}
		w.say("C%d", a.Call)
		n := w.call(a.Call, args)
		w.say("B")
		if a.Var >= 0 {
			f[a.Var][0] = n
		}
	case api.StIf:
		if kid(0) != 0 {
			return w.list(a.Body, f)
		}
		return w.list(a.Else, f)
	case api.StFor:
		for kid(0) != 0 {
			if back, is = w.list(a.Body, f); is {
				return back, true
			}
			w.mark(a.Point, f)
		}
	case api.StPrint:
		w.say("O%d", kid(0))
	case api.StInput:
		if len(w.in) == 0 {
			w.end("I")
		}
		f[a.Var][0], w.in = w.in[0], w.in[1:]
	case api.StReturn:
		if len(a.Kids) > 0 {
			return kid(0), true
		}
		return 0, true
	}
	return 0, false
}

func (w *walk) word(words []int64, at int64) *int64 {
	if at < 0 || at >= int64(len(words)) {
		w.end("X")
	}
	return &words[at]
}

func (w *walk) value(v api.Val, f frame) int64 {
	switch v.Kind {
	case api.ValNum:
		return v.Num
	case api.ValVar:
		return f[v.Var][0]
	case api.ValElem:
		return *w.word(f[v.Var], w.value(v.Kids[0], f))
	case api.ValField:
		return f[v.Var][v.Num]
	}
	x := w.value(v.Kids[0], f)
	if v.Kind == api.ValUn {
		return map[uint8]int64{api.OpNeg: -x, api.OpNot: 1 - x}[v.Op]
	}
	return w.reckon(v.Op, x, w.value(v.Kids[1], f))
}

func (w *walk) reckon(op uint8, x, y int64) int64 {
	is := func(b bool) int64 { return map[bool]int64{true: 1}[b] }
	if y == 0 && (op == api.OpDiv || op == api.OpRem) {
		w.end("D")
	}
	switch op {
	case api.OpAdd:
		return x + y
	case api.OpSub:
		return x - y
	case api.OpMul:
		return x * y
	case api.OpDiv:
		return x / y
	case api.OpRem:
		return x % y
	case api.OpEq:
		return is(x == y)
	case api.OpNe:
		return is(x != y)
	case api.OpLt:
		return is(x < y)
	case api.OpLe:
		return is(x <= y)
	case api.OpGt:
		return is(x > y)
	case api.OpGe:
		return is(x >= y)
	case api.OpAnd:
		return x & y
	}
	return x | y
}

func TestTraces(t *testing.T) {
	for _, c := range []struct {
		text string
		fuel int
		in   []int64
		want string
	}{
		{example, 99, nil, "M0 M1,0=2 M2,0=2 O2 M3,0=2 M1,0=1 M2,0=1 O1 M3,0=1 M1,0=0 H"},
		{example, 4, nil, "M0 M1,0=2 M2,0=2 O2 M3,0=2 F"},
		{example, 0, nil, "F"},
		{whole, 99, nil, "M2 M3,0=2 C0 M0,0=2 M1,0=2,1=3 B M4,0=3 O3 H"},
		{"func main() { }", 0, nil, "H"},
		{"func main() { print(1 / 0); }", 9, nil, "M0 D"},
		{"func main() { print(1 % 0); }", 9, nil, "M0 D"},
		{"func main() { var b bool = false && 1 / 0 == 1; }", 9, nil, "M0 D"},
		{"func main() { var m int = -9223372036854775807 - 1; print(m / -1); print(m % -1); print(-m); print(-7 / 2); print(-7 % 2); }", 9, nil, fmt.Sprintf("M0 M1,0=%d O%[1]d M2,0=%[1]d O0 M3,0=%[1]d O%[1]d M4,0=%[1]d O-3 M5,0=%[1]d O-1 H", int64(math.MinInt64))},
		{"func main() { var a [2]int; a[1] = 5; print(a[0] - a[1]); a[2] = 1 / 0; }", 9, nil, "M0 M1 M2 O-5 M3 D"},
		{"func main() { var a [2]int; print(a[2]); }", 9, nil, "M0 M1 X"},
		{"func main() { var a [2]int; a[-1] = 1; }", 9, nil, "M0 M1 X"},
		{"func main() { var x int = 7; x = input(); print(x); x = input(); }", 9, []int64{-4}, "M0 M1,0=7 M2,0=-4 O-4 M3,0=-4 I"},
		{"type T struct { k int; l int; } func main() { var s T; s.l = 4; s.k = s.l + 1; print(s.k); print(s.l); }", 9, nil, "M0 M1 M2 M3 O5 M4 O4 H"},
		{"func main() { for 1 < 2 { var s [2]int; s[0] = s[0] + 1; print(s[0]); } }", 9, nil, "M0 M1 M2 M3 O1 M0 M1 M2 M3 O1 M0 F"},
		{"func main() { if true { var x int = 1; } else { var y int = 2; } if false { } else { var z bool = true; print(3); } }", 9, nil, "M0 M1 M3 M4 M5,2=1 O3 H"},
		{"func p(a int, b bool) { if b { return; } print(a); } func main() { p(1, false); p(2, true); p(3, !(1 == 1)); }", 19, nil, "M3 C0 M0,0=1,1=0 M2,0=1,1=0 O1 B M4 C0 M0,0=2,1=1 M1,0=2,1=1 B M5 C0 M0,0=3,1=0 M2,0=3,1=0 O3 B H"},
		{"func f(n int) int { if n < 2 { return 1; } var m int = 0; m = f(n - 1); return n * m; } func main() { var r int = 0; r = f(3); print(r); }", 99, nil,
			"M5 M6,0=0 C0 M0,0=3 M2,0=3 M3,0=3,1=0 C0 M0,0=2 M2,0=2 M3,0=2,1=0 C0 M0,0=1 M1,0=1 B M4,0=2,1=1 B M4,0=3,1=2 B M7,0=6 O6 H"},
	} {
		if got := traceOf(says(t, c.text, 0, api.OK), c.fuel, c.in...); got != c.want {
			t.Errorf("%s: %s, want %s", c.text, got, c.want)
		}
	}
}

// Of a program that is right no name, and no number of a thing, is missing where it is done.
func TestTreesCanBeDone(t *testing.T) {
	next := dice(5)
	ends := map[byte]int{}
	for range 2000 {
		x := comesTo(t, made(next), 0, api.OK)
		s := traceOf(x, 300, 1, -2, 3, 0, 5)
		ends[s[len(s)-1]]++
	}
	for _, end := range "HDXIF" {
		if ends[byte(end)] < 5 {
			t.Errorf("%v ended so", ends)
		}
	}
}
