package build_test

import (
	"testing"

	"theodolite/api"
)

// All programs of few statements, by which of them stand in which: inputs, returns, ifs and fors.

// lists are all lists of so many statements, those in them among these.
type lists struct{ of [][][]api.Stmt }

// isOdd is asked by each if and for: each input turns what it is.
func isOdd() api.Exp { return bin(bin(named("x"), "%", num(2)), "==", num(1)) }

func listsUpTo(most int) lists {
	l := lists{[][][]api.Stmt{{nil}}}
	for n := 1; n <= most; n++ {
		var all [][]api.Stmt
		for first := 1; first <= n; first++ {
			for _, s := range l.statements(first) {
				for _, rest := range l.of[n-first] {
					all = append(all, append([]api.Stmt{s}, rest...))
				}
			}
		}
		l.of = append(l.of, all)
	}
	return l
}

// statements are all of which there are so many, itself and those in it.
func (l lists) statements(n int) (all []api.Stmt) {
	if n == 1 {
		all = append(all, statement(api.StInput, "x"), statement(api.StReturn, ""))
	}
	for k := range n {
		for _, body := range l.of[k] {
			for _, behind := range l.of[n-1-k] {
				all = append(all, branch(isOdd(), body, behind))
			}
		}
	}
	for _, body := range l.of[n-1] {
		all = append(all, loop(isOdd(), body...))
	}
	return all
}

func TestAllFlows(t *testing.T) {
	runs := []run{{9, nil}, {3, []int64{1, 1, 1}}, {11, []int64{1, 0, 1, 1, 0, 0}}, {12, []int64{0, 1, 1, 1, 0, 0, 1, 0, 1}}}
	count := 0
	x := declared("x", isInt(), num(1))
	for n, all := range listsUpTo(5).of {
		for _, l := range all {
			count++
			isBuilt(t, checked(t, inMain(append([]api.Stmt{x}, l...)...)), runs...)
			if n == 5 {
				continue
			}
			// And in a function whose first statement is the list's first.
			f := api.Decl{Name: "f", Params: []api.Param{{Name: "x", Type: isInt()}}, Body: l}
			call := api.Stmt{Kind: api.StCall, Call: "f", Kids: []api.Exp{num(1)}}
			isBuilt(t, checked(t, api.Prog{Funcs: []api.Decl{f, {Name: "main", Body: []api.Stmt{call, call}}}}), runs...)
		}
	}
	if count != 1+4+28+260+2780+32260 {
		t.Errorf("%d programs", count)
	}
}

// Ways that do not come, or do not come back, and those to the first block.
func TestFlows(t *testing.T) {
	runs := []run{{0, nil}, {1, nil}, {20, nil}}
	for _, text := range []string{
		"", "return;", "return; return;", "return; if true { } for true { }",
		"for true { }", "for false { }", "for true { } print(1);", "for true { return; }", "for true { return; } return;",
		"for true { return; print(1); }", "for true { for true { return; } }", "for true { for false { return; } }", "for true { for true { } }",
		"for true { if true { return; } else { return; } print(1); } print(2);", "for true { if true { return; } else { } }", "for true { if true { } else { return; } }",
		"for 1 < 2 { if 2 < 1 { return; } } for true { } ", "for true { for true { for true { } } }",
		"if true { }", "if true { } else { }", "if true { return; }", "if true { } else { return; }", "if true { return; } else { return; }", "if true { return; } else { return; } print(1);",
		"if true { if true { return; } else { return; } print(1); } else { return; } print(2); for true { }",
		"if true { for true { } }", "if true { for true { } } else { for true { } } for true { }", "if true { } for true { } if true { }",
		"if true { if true { } else { } } else { if true { } }", "var x int = 1; for true { }", "print(1); return; for true { print(2); }",
	} {
		isBuilt(t, source(t, "func main() { "+text+" }"), runs...)
		isBuilt(t, source(t, "func f(a int, b bool) { "+text+" } func main() { f(1, true); f(2, false); }"), runs...)
	}
	for _, text := range []string{
		"return n;", "if n > 0 { return 1; } else { return n - 1; }", "if n > 0 { return 1; } return 2;", "for n > 0 { return 1; } return n;", "return 1; return 2;", "return 1; print(2); return n / 0;",
		"if n > 0 { return 1; } else { if n < 0 { return 2; } else { print(3); } } return n;", "for true { } return 0;", "for n > 0 { n = n - 1; if n == 1 { return 7; } } return n;",
	} {
		isBuilt(t, source(t, "func main() { var x int = 0; x = f(2); print(x); x = f(0); print(x); x = f(-2); print(x); } func f(n int) int { "+text+" }"), runs...)
	}
}
