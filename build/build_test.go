package build_test

import (
	"fmt"
	"math"
	"testing"

	"theodolite/api"
)

// The chapter's example.
func TestExample(t *testing.T) {
	x := source(t, "func main() { print(2); }")
	u := isBuilt(t, x, run{fuel: 9})
	if len(u.Funcs) != 1 || len(u.Funcs[0].Blocks) != 1 {
		t.Fatal(tell(u))
	}
	b := u.Funcs[0].Blocks[0]
	if len(b.Ins) != 3 || b.Term.Kind != api.TermRet || b.Term.A != -1 {
		t.Fatal(tell(u))
	}
	mark, two, out := b.Ins[0], b.Ins[1], b.Ins[2]
	if mark.Op != api.InsMark || mark.Num != 0 || two.Op != api.InsConst || two.Num != 2 || two.Dst != 0 || out.Op != api.InsPrint || out.A != 0 {
		t.Error(tell(u))
	}
}

// The document's program, and chapter 13's.
const (
	whole = `func f(n int) int {
var y int = n + 1;
return y; }
func main() {
var x int = 2;
x = f(x);
print(x); }`
	counting = "func main() { var x int = 2; for x > 0 { print(x); x = x - 1; } }"
)

// says: a text's tree, and the unit of it, tell that trace.
func says(t *testing.T, text, want string, fuel int, in ...int64) {
	t.Helper()
	r := run{fuel, in}
	x := source(t, text)
	u := isBuilt(t, x, r)
	if got := traceOfUnit(u, r); got != want {
		t.Errorf("%s: %s: %s, want %s", text, tell(u), got, want)
	}
}

// P14.1: traces as chapter 13 has them.
func TestTraces(t *testing.T) {
	says(t, counting, "M0 M1,0=2 M2,0=2 O2 M3,0=2 M1,0=1 M2,0=1 O1 M3,0=1 M1,0=0 H", 99)
	says(t, counting, "M0 M1,0=2 M2,0=2 O2 M3,0=2 F", 4)
	says(t, counting, "M0 M1,0=2 M2,0=2 O2 M3,0=2 M1,0=1 M2,0=1 O1 M3,0=1 F", 7)
	says(t, counting, "F", 0)
	says(t, counting, "F", -1)
	says(t, whole, "M2 M3,0=2 C0 M0,0=2 M1,0=2,1=3 B M4,0=3 O3 H", 99)
	says(t, "func main() { }", "H", 0)
	says(t, "func main() { return; }", "M0 H", 1)
	says(t, "func main() { return; }", "F", 0)
}

func TestOrder(t *testing.T) {
	for text, want := range map[string]string{
		// Both sides of && and || are made, the left one first.
		"var b bool = false && 1 / 0 == 1;":                          "M0 D",
		"var b bool = true || 1 % 0 == 1; print(1);":                 "M0 D",
		"var a [1]int; var b bool = a[1] == 1 && 1 / 0 == 1;":        "M0 M1 X",
		"var a [1]int; var b bool = 1 / 0 == 1 || a[1] == 1;":        "M0 M1 D",
		"var a [1]int; print(a[7] + 1 / 0);":                         "M0 M1 X",
		"var a [1]int; print(1 / 0 + a[7]);":                         "M0 M1 D",
		"var a [1]int; print(a[1 / 0]);":                             "M0 M1 D",
		"var a [1]int; print(a[a[1]] / 0);":                          "M0 M1 X",
		"var a [1]int; print(a[a[0]] / 0);":                          "M0 M1 D",
		"print(1); print((1 - 1) / 0 + 2); print(3);":                "M0 O1 M1 D",
		"var a [2]int; a[1 / 0] = a[2];":                             "M0 M1 D",
		"var a [2]int; a[2] = 1 / 0;":                                "M0 M1 D",
		"var a [2]int; a[a[-1]] = 1 / 0;":                            "M0 M1 X",
		"var a [2]int; a[2] = a[0]; print(1);":                       "M0 M1 X",
		"var a [2]int; a[-1] = 1;":                                   "M0 M1 X",
		"var a [2]int; a[1] = 5; print(a[0] - a[1]);":                "M0 M1 M2 O-5 H",
		"var x int = 1; x = x + 1; print(x * x - x);":                "M0 M1,0=1 M2,0=2 O2 H",
		"var x int = 5; for x / 0 == 1 { } print(1);":                "M0 M1,0=5 D",
		"if 1 / 0 == 0 { print(1); } else { print(2); }":             "M0 D",
		"if 1 == 1 { print(1); } else { print(1 / 0); }":             "M0 M1 O1 H",
		"if 1 == 1 { } else { } print(4);":                           "M0 M1 O4 H",
		"if 1 != 1 { } else { } print(4);":                           "M0 M1 O4 H",
		"if 1 / 0 == 1 { } else { } print(4);":                       "M0 D",
		"for 1 / 0 == 1 { } print(4);":                               "M0 D",
		"for false { } print(4);":                                    "M0 M1 O4 H",
		"for true { print(1); return; } print(4);":                   "M0 M1 O1 M2 H",
		"for true { if true { print(1); return; } } print(4);":       "M0 M1 M2 O1 M3 H",
		"if true { return; print(1); } print(2);":                    "M0 M1 H",
		"if false { return; print(1); } print(2);":                   "M0 M3 O2 H",
		"if false { return; } else { print(1); } print(2);":          "M0 M2 O1 M3 O2 H",
		"if true { print(1); } else { return; } print(2);":           "M0 M1 O1 M3 O2 H",
		"if false { return; } else { return; } print(2);":            "M0 M2 H",
		"return; for true { print(1); }":                             "M0 H",
		"var b bool = !(1 < 2); var c bool = !b; if c { print(1); }": "M0 M1,0=0 M2,0=0,1=1 M3,0=0,1=1 O1 H",
	} {
		says(t, "func main() { "+text+" }", want, 30)
	}
}

func TestOperations(t *testing.T) {
	least, most := int64(math.MinInt64), int64(math.MaxInt64)
	for _, x := range []int64{0, 1, -1, 7, -7, 2, least, least + 1, most} {
		for _, y := range []int64{0, 1, -1, 2, -2, 7, least, most} {
			for sign, want := range map[string]int64{"+": x + y, "-": x - y, "*": x * y} {
				says(t, input2("print(x "+sign+" y);"), fmt.Sprintf("%sO%d H", marks2(x, y), want), 9, x, y)
			}
			for sign, want := range map[string]bool{"<": x < y, "<=": x <= y, ">": x > y, ">=": x >= y, "==": x == y, "!=": x != y} {
				n := map[bool]int{true: 1, false: 0}[want]
				says(t, input2("b = x "+sign+" y; print(0);"), fmt.Sprintf("%sM6,0=%d,1=%d,2=%d O0 H", marks2(x, y), x, y, n), 9, x, y)
			}
			if y == 0 {
				says(t, input2("print(x / y);"), marks2(x, y)+"D", 9, x, y)
				says(t, input2("print(x % y);"), marks2(x, y)+"D", 9, x, y)
				continue
			}
			says(t, input2("print(x / y);"), fmt.Sprintf("%sO%d H", marks2(x, y), x/y), 9, x, y)
			says(t, input2("print(x % y);"), fmt.Sprintf("%sO%d H", marks2(x, y), x%y), 9, x, y)
		}
		says(t, input2("print(-x);"), fmt.Sprintf("%sO%d H", marks2(x, 3), -x), 9, x, 3)
	}
	for _, c := range []struct {
		text string
		want int
	}{
		{"x > 0 && y > 0", 1}, {"x > 0 && y > 9", 0}, {"x > 9 && y > 0", 0}, {"x > 9 && y > 9", 0},
		{"x > 0 || y > 0", 1}, {"x > 0 || y > 9", 1}, {"x > 9 || y > 0", 1}, {"x > 9 || y > 9", 0},
		{"!(x > 0)", 0}, {"!(x > 9)", 1}, {"(x > 0) == (y > 0)", 1}, {"(x > 0) == (y > 9)", 0}, {"(x > 0) != (y > 0)", 0}, {"(x > 9) != (y > 0)", 1}, {"true", 1}, {"false", 0}, {"!!b", 0},
	} {
		says(t, input2("b = "+c.text+"; print(0);"), fmt.Sprintf("%sM6,0=4,1=5,2=%d O0 H", marks2(4, 5), c.want), 9, 4, 5)
	}
}

// input2 is a program that asks for x and y, and has a b.
func input2(text string) string {
	return "func main() { var x int = 0; var y int = 0; var b bool = false; x = input(); y = input(); " + text + " }"
}

// marks2 are its Marks, with the one of what it does first behind that.
func marks2(x, y int64) string {
	return fmt.Sprintf("M0 M1,0=0 M2,0=0,1=0 M3,0=0,1=0,2=0 M4,0=%d,1=0,2=0 M5,0=%[1]d,1=%d,2=0 ", x, y)
}

func TestNumbers(t *testing.T) {
	for _, n := range []int64{0, 1, -1, 127, 128, math.MaxInt32 + 1, math.MaxInt64, math.MinInt64} {
		x := checked(t, inMain(statement(api.StPrint, "", num(n))))
		r := run{fuel: 1}
		if got, want := traceOfUnit(isBuilt(t, x, r), r), fmt.Sprintf("M0 O%d H", n); got != want {
			t.Errorf("%s, want %s", got, want)
		}
	}
}

func TestVariables(t *testing.T) {
	says(t, "type T struct { k int; l int; } func main() { var s T; var r T; s.l = 4; s.k = s.l + 1; r.k = s.k * 2; print(s.k); print(s.l); print(r.k); print(r.l); }",
		"M0 M1 M2 M3 M4 M5 O5 M6 O4 M7 O10 M8 O0 H", 9)
	// A var of an aggregate makes all its words 0 each time; a scalar's, its value.
	says(t, "type T struct { k int; l int; } func main() { var i int = 0; for i < 2 { var s T; print(s.l); s.l = 7; var a [3]int; print(a[2]); a[2] = 8; var x int = i; x = x + 5; i = i + 1; } }",
		"M0 M1,0=0 M2,0=0 M3,0=0 O0 M4,0=0 M5,0=0 M6,0=0 O0 M7,0=0 M8,0=0 M9,0=0,3=0 M10,0=0,3=5 M1,0=1 M2,0=1 M3,0=1 O0 M4,0=1 M5,0=1 M6,0=1 O0 M7,0=1 M8,0=1 M9,0=1,3=1 M10,0=1,3=6 M1,0=2 H", 99)
	// What is out of scope is not known; two lists that part have theirs.
	says(t, "func main() { if true { var x int = 1; } else { var y int = 2; } if false { } else { var z bool = true; print(3); } }", "M0 M1 M3 M4 M5,2=1 O3 H", 99)
	says(t, "func main() { var x int = 7; x = input(); print(x); x = input(); }", "M0 M1,0=7 M2,0=-4 O-4 M3,0=-4 I", 9, -4)
	says(t, "func main() { var x int = 7; x = input(); x = input(); x = input(); }", "M0 M1,0=7 M2,0=1 M3,0=2 H", 9, 1, 2, 3, 4)
	says(t, "func main() { var a [16]int; a[15] = 1; a[0] = 2; print(a[15]); print(a[0]); print(a[16]); }", "M0 M1 M2 M3 O1 M4 O2 M5 X", 9)
}

func TestCalls(t *testing.T) {
	says(t, "func p(a int, b bool) { if b { return; } print(a); } func main() { p(1, false); p(2, true); p(3, !(1 == 1)); }",
		"M3 C0 M0,0=1,1=0 M2,0=1,1=0 O1 B M4 C0 M0,0=2,1=1 M1,0=2,1=1 B M5 C0 M0,0=3,1=0 M2,0=3,1=0 O3 B H", 19)
	says(t, "func f(n int) int { if n < 2 { return 1; } var m int = 0; m = f(n - 1); return n * m; } func main() { var r int = 0; r = f(3); print(r); }",
		"M5 M6,0=0 C0 M0,0=3 M2,0=3 M3,0=3,1=0 C0 M0,0=2 M2,0=2 M3,0=2,1=0 C0 M0,0=1 M1,0=1 B M4,0=2,1=1 B M4,0=3,1=2 B M7,0=6 O6 H", 99)
	// Arguments are made from the left on, ahead of the call; a result that nothing takes goes nowhere.
	says(t, "func f(a int, b int, c int) int { print(a); print(b); print(c); return a - b; } func main() { var x int = 9; f(x, x + 1, x + 2); print(x); x = f(x + 5, 1, 2); print(x); }",
		"M4 M5,0=9 C0 M0,0=9,1=10,2=11 O9 M1,0=9,1=10,2=11 O10 M2,0=9,1=10,2=11 O11 M3,0=9,1=10,2=11 B M6,0=9 O9 M7,0=9 C0 M0,0=14,1=1,2=2 O14 M1,0=14,1=1,2=2 O1 M2,0=14,1=1,2=2 O2 M3,0=14,1=1,2=2 B M8,0=13 O13 H", 99)
	says(t, "func f(a int, b int) { } func main() { var a [1]int; f(1 / 0, a[1]); }", "M0 M1 D", 99)
	says(t, "func f(a int, b int) { } func main() { var a [1]int; f(a[1], 1 / 0); }", "M0 M1 X", 99)
	says(t, "func f() { } func main() { f(); f(); }", "M0 C0 B M1 C0 B H", 99)
	says(t, "func main() { g(); h(); } func h() { g(); print(1); } func g() { return; }", "M0 C2 M4 B M1 C1 M2 C2 M4 B M3 O1 B H", 99)
	says(t, "func main() { main(); print(1); }", "M0 C0 M0 C0 M0 C0 F", 3)
	// Each time that a function is called its variables are its own, and what it is handed is.
	says(t, "func f(n int) { var a [2]int; print(a[1]); a[1] = n; if n > 0 { f(n - 1); } print(a[1]); n = n + 7; } func main() { var n int = 1; f(n); print(n); }",
		"M7 M8,0=1 C0 M0,0=1 M1,0=1 O0 M2,0=1 M3,0=1 M4,0=1 C0 M0,0=0 M1,0=0 O0 M2,0=0 M3,0=0 M5,0=0 O0 M6,0=0 B M5,0=1 O1 M6,0=1 B M9,0=1 O1 H", 99)
	// A bool that is given back, and a trap, a lack of inputs, in a function that was called.
	says(t, "func f(n int) bool { return n > 1; } func main() { var b bool = true; b = f(1); b = f(2); print(1 / 0); }", "M1 M2,0=1 C0 M0,0=1 B M3,0=0 C0 M0,0=2 B M4,0=1 D", 99)
	says(t, "func f() { print(1 / 0); } func main() { f(); print(1); }", "M1 C0 M0 D", 99)
	says(t, "func f() { var x int = 1; x = input(); } func main() { f(); print(1); }", "M2 C0 M0 M1,0=1 I", 99)
	// Six parameters, of both kinds, each in its place.
	says(t, "func f(a int, b bool, c int, d bool, e int, g int) int { c = a; return e * 10 + g; } func main() { var x int = 0; x = f(1, true, 3, false, 5, 6); print(x); }",
		"M2 M3,0=0 C0 M0,0=1,1=1,2=3,3=0,4=5,5=6 M1,0=1,1=1,2=1,3=0,4=5,5=6 B M4,0=56 O56 H", 99)
}

// What a function is beside its blocks is the tree's: its name, parameters and result too, where it has no statement.
func TestFunctions(t *testing.T) {
	x := source(t, "type S struct { k int; } func none() { } func f(a bool, b int) int { var s S; var l [3]int; return 1; } func main() { } func g(b bool) bool { return b; }")
	u := isBuilt(t, x, run{})
	if u.Main != 2 || len(u.Funcs) != 4 || len(u.Points) != 4 {
		t.Fatal(tell(u))
	}
	for n, want := range []struct {
		name   string
		params int
		result bool
		vars   int
	}{{"none", 0, false, 0}, {"f", 2, true, 4}, {"main", 0, false, 0}, {"g", 1, true, 1}} {
		f := u.Funcs[n]
		if f.Name != want.name || f.Params != want.params || f.Result != want.result || len(f.Vars) != want.vars {
			t.Errorf("function %d: %s, want %v", n, tell(f), want)
		}
	}
	if v := u.Funcs[1].Vars[3]; v.Name != "l" || v.Words != 3 || v.Type.N != 3 {
		t.Error(tell(v))
	}
}
