package fold_test

import (
	"math"
	"slices"
	"testing"

	"theodolite/api"
)

// edges are numbers at which something turns.
func edges() []int64 {
	return []int64{math.MinInt64, math.MinInt64 + 1, -1 << 32, -7, -2, -1, 0, 1, 2, 3, 7, 64, 1 << 31, 1 << 32, math.MaxInt64 - 1, math.MaxInt64}
}

// becomes: of a unit whose main has some blocks there is one whose main has others.
func becomes(t *testing.T, of, want []api.Block) {
	t.Helper()
	u := inMain(of...)
	got := isRight(t, u, run{9, nil}, run{9, []int64{5, 0, 1, 0, 7}})
	if wanted := inMain(want...); !same(got, wanted) {
		t.Errorf("Unit(%s): %s, want %s", tell(u), tell(got), tell(wanted))
	}
}

// stays: a unit whose main has these blocks is as it was.
func stays(t *testing.T, l ...api.Block) {
	t.Helper()
	becomes(t, l, l)
}

// The chapter's example.
func TestExample(t *testing.T) {
	becomes(t,
		[]api.Block{block(ret(-1), num(0, 2), num(1, 3), two(api.OpAdd, 2, 0, 1), put(2))},
		[]api.Block{block(ret(-1), num(0, 2), num(1, 3), num(2, 5), put(2))})
}

// What each operation comes to, told by hand.
func TestOperations(t *testing.T) {
	const least, most = math.MinInt64, math.MaxInt64
	for _, c := range []struct {
		op         uint8
		x, y, want int64
	}{
		{api.OpAdd, 2, 3, 5}, {api.OpAdd, most, 1, least}, {api.OpAdd, least, -1, most}, {api.OpAdd, -4, 4, 0},
		{api.OpSub, 2, 3, -1}, {api.OpSub, least, 1, most}, {api.OpSub, most, -1, least}, {api.OpSub, 0, least, least},
		{api.OpMul, -6, 7, -42}, {api.OpMul, most, 2, -2}, {api.OpMul, least, -1, least}, {api.OpMul, 1 << 32, 1 << 32, 0},
		{api.OpDiv, 7, 2, 3}, {api.OpDiv, -7, 2, -3}, {api.OpDiv, 7, -2, -3}, {api.OpDiv, -7, -2, 3}, {api.OpDiv, least, -1, least}, {api.OpDiv, 0, 5, 0}, {api.OpDiv, most, -1, -most}, {api.OpDiv, 1, 2, 0},
		{api.OpRem, 7, 2, 1}, {api.OpRem, -7, 2, -1}, {api.OpRem, 7, -2, 1}, {api.OpRem, -7, -2, -1}, {api.OpRem, least, -1, 0}, {api.OpRem, 0, 5, 0}, {api.OpRem, 5, 7, 5}, {api.OpRem, 5, 1, 0},
		{api.OpEq, 2, 2, 1}, {api.OpEq, 2, 3, 0}, {api.OpEq, 3, 2, 0}, {api.OpEq, least, most, 0}, {api.OpEq, least, least, 1},
		{api.OpNe, 2, 2, 0}, {api.OpNe, 2, 3, 1}, {api.OpNe, 3, 2, 1}, {api.OpNe, least, most, 1}, {api.OpNe, most, most, 0},
		{api.OpLt, 2, 2, 0}, {api.OpLt, 2, 3, 1}, {api.OpLt, 3, 2, 0}, {api.OpLt, least, most, 1}, {api.OpLt, most, least, 0}, {api.OpLt, -1, 0, 1},
		{api.OpLe, 2, 2, 1}, {api.OpLe, 2, 3, 1}, {api.OpLe, 3, 2, 0}, {api.OpLe, least, most, 1}, {api.OpLe, most, least, 0}, {api.OpLe, 0, -1, 0},
		{api.OpGt, 2, 2, 0}, {api.OpGt, 2, 3, 0}, {api.OpGt, 3, 2, 1}, {api.OpGt, least, most, 0}, {api.OpGt, most, least, 1}, {api.OpGt, 0, -1, 1},
		{api.OpGe, 2, 2, 1}, {api.OpGe, 2, 3, 0}, {api.OpGe, 3, 2, 1}, {api.OpGe, least, most, 0}, {api.OpGe, most, least, 1}, {api.OpGe, -1, 0, 0},
		{api.OpAnd, 6, 3, 2}, {api.OpAnd, 1, 1, 1}, {api.OpAnd, 1, 0, 0}, {api.OpAnd, -1, least, least}, {api.OpAnd, 4, 2, 0},
		{api.OpOr, 6, 3, 7}, {api.OpOr, 0, 0, 0}, {api.OpOr, 1, 0, 1}, {api.OpOr, -1, most, -1}, {api.OpOr, 4, 2, 6},
		{api.OpNot, 0, 9, 1}, {api.OpNot, 1, 9, 0}, {api.OpNot, 7, 0, -6}, {api.OpNot, least, 0, least + 1}, {api.OpNot, -most, 0, least},
		{api.OpNeg, 0, 9, 0}, {api.OpNeg, 5, 0, -5}, {api.OpNeg, least, 0, least}, {api.OpNeg, most, 0, -most}, {api.OpNeg, -1, 0, 1},
	} {
		i := two(c.op, 2, 0, 1)
		if c.op >= api.OpNot {
			i = one(c.op, 2, 0)
		}
		becomes(t,
			[]api.Block{block(ret(-1), num(0, c.x), num(1, c.y), i, put(2))},
			[]api.Block{block(ret(-1), num(0, c.x), num(1, c.y), num(2, c.want), put(2))})
	}
}

// Each operation of all edges.
func TestEdges(t *testing.T) {
	for op := api.OpAdd; op <= api.OpNeg; op++ {
		for _, x := range edges() {
			for _, y := range edges() {
				i := two(op, 2, 1, 0)
				if op >= api.OpNot {
					i = one(op, 2, 1)
				}
				got := isRight(t, inMain(block(ret(-1), num(0, y), num(1, x), i, put(2))), run{})
				traps := (op == api.OpDiv || op == api.OpRem) && y == 0
				if is := got.Funcs[0].Blocks[0].Ins[2]; (is.Op == op) != traps || (is.Op == api.InsConst) == traps {
					t.Errorf("%d of %d, %d: %s", op, x, y, tellIns(&is))
				}
			}
		}
	}
}

// One virtual may be both sides.
func TestBothSides(t *testing.T) {
	becomes(t,
		[]api.Block{block(ret(-1), num(0, 5), two(api.OpMul, 1, 0, 0), two(api.OpLe, 2, 1, 1), put(1), put(2))},
		[]api.Block{block(ret(-1), num(0, 5), num(1, 25), num(2, 1), put(1), put(2))})
}

// What was reckoned is reckoned with: in the block, in those that it stands over, whatever their numbers.
func TestOnAndOn(t *testing.T) {
	becomes(t,
		[]api.Block{block(ret(-1), num(0, 5), one(api.OpNeg, 1, 0), two(api.OpMul, 2, 1, 0), one(api.OpNot, 3, 2), two(api.OpLt, 4, 3, 2), put(3), put(4))},
		[]api.Block{block(ret(-1), num(0, 5), num(1, -5), num(2, -25), num(3, 26), num(4, 0), put(3), put(4))})
	becomes(t,
		[]api.Block{
			block(jump(2), num(0, 5)),
			block(ret(-1), two(api.OpAdd, 3, 2, 1), put(3)),
			block(jump(3), one(api.OpNeg, 1, 0)),
			block(fork(4, 1, 2), two(api.OpMul, 2, 1, 0), input(4)),
		},
		[]api.Block{
			block(jump(2), num(0, 5)),
			block(ret(-1), num(3, -30), put(3)),
			block(jump(3), num(1, -5)),
			block(fork(4, 1, 2), num(2, -25), input(4)),
		})
	becomes(t, // where ways come together, and behind that; what a Phi makes is not known
		[]api.Block{
			block(fork(1, 1, 2), num(0, 5), input(1)),
			block(jump(3), one(api.OpNeg, 2, 0), put(2)),
			block(jump(3), one(api.OpNot, 3, 0), put(3)),
			block(fork(1, 3, 4), phi(4, 2, 3, 4), two(api.OpMul, 5, 0, 0), two(api.OpSub, 6, 5, 4), put(6)),
			block(ret(-1), two(api.OpSub, 7, 5, 0), put(7)),
		},
		[]api.Block{
			block(fork(1, 1, 2), num(0, 5), input(1)),
			block(jump(3), num(2, -5), put(2)),
			block(jump(3), num(3, -4), put(3)),
			block(fork(1, 3, 4), phi(4, 2, 3, 4), num(5, 25), two(api.OpSub, 6, 5, 4), put(6)),
			block(ret(-1), num(7, 20), put(7)),
		})
}

// What is not all Consts is not reckoned, nor what ends the run.
func TestWhatStays(t *testing.T) {
	for _, other := range []api.Ins{input(1), load(1, vArray, 0), field(1, vStruct, 1), call(1, 1, 0, 0), again(1, 0)} {
		for op := api.OpAdd; op <= api.OpOr; op++ {
			stays(t, block(ret(2), num(0, 1), other, two(op, 2, 0, 1), two(op, 3, 1, 0), two(op, 4, 1, 1), put(2), put(3), put(4)))
		}
		for _, op := range []uint8{api.OpNot, api.OpNeg} {
			stays(t, block(ret(2), num(0, 1), other, one(op, 2, 1), put(2)))
		}
		stays(t, block(fork(1, 1, 2), num(0, 1), other), block(ret(-1), put(0)), block(ret(-1), put(1)))
	}
	for _, n := range edges() {
		for _, op := range []uint8{api.OpDiv, api.OpRem} {
			stays(t, block(ret(-1), num(0, n), num(1, 0), put(0), two(op, 2, 0, 1), put(1), put(2)))
			stays(t, block(ret(-1), input(0), num(1, 0), put(0), two(op, 2, 0, 1), two(api.OpAdd, 3, 2, 1), put(3)))
			stays(t, block(fork(2, 1, 1), num(0, n), num(1, 0), two(op, 2, 0, 1)), block(ret(-1), put(2)))
		}
	}
	stays(t, // a Phi, though all its Args are one Const
		block(fork(1, 1, 2), num(0, 3), input(1)), block(jump(3)), block(jump(3)),
		block(ret(-1), phi(2, 0, 0), one(api.OpNeg, 3, 2), put(3)))
	u := inMain(block(ret(-1), num(0, 3), call(1, 1, 0, 0), put(1)))
	u.Funcs[1].Blocks = []api.Block{block(ret(3), arg(0, 0), arg(1, 1), two(api.OpAdd, 2, 0, 1), two(api.OpAdd, 3, 2, 2))}
	if got := isRight(t, u, run{}); !same(got, u) {
		t.Errorf("Unit(%s): %s", tell(u), tell(got))
	}
}

// All that does something, and each Bind, stays as it was, where it was.
func TestWhatDoesSomething(t *testing.T) {
	becomes(t,
		[]api.Block{block(ret(5),
			num(0, 1), bind(vInt, 0), mark(0), one(api.OpNot, 1, 0), bind(vInt, 1), mark(1), bind(vInt, 0), bind(vInt, -1), mark(2), bind(vBool, 1),
			zero(vArray), store(vArray, 0, 1), load(2, vArray, 0), zero(vStruct), setField(vStruct, 1, 0), field(3, vStruct, 1),
			call(4, 1, 1, 0), call(-1, 1, 0, 1), two(api.OpAdd, 5, 0, 1), bind(vInt, 5), input(6), put(5), put(1), mark(3), put(6))},
		[]api.Block{block(ret(5),
			num(0, 1), bind(vInt, 0), mark(0), num(1, 0), bind(vInt, 1), mark(1), bind(vInt, 0), bind(vInt, -1), mark(2), bind(vBool, 1),
			zero(vArray), store(vArray, 0, 1), load(2, vArray, 0), zero(vStruct), setField(vStruct, 1, 0), field(3, vStruct, 1),
			call(4, 1, 1, 0), call(-1, 1, 0, 1), num(5, 1), bind(vInt, 5), input(6), put(5), put(1), mark(3), put(6))})
}

// Where a TermIf goes that looks at a Const: whatever is not 0 is one side.
func TestEnds(t *testing.T) {
	for _, n := range edges() {
		of := []api.Block{block(fork(0, 2, 1), num(0, n)), block(ret(-1), num(1, 7), put(1)), block(ret(-1), num(2, 8), put(2))}
		left := of[2]
		if n == 0 {
			left = of[1]
		}
		becomes(t, of, []api.Block{block(jump(1), num(0, n)), left})
	}
	becomes(t, // of what was reckoned, in another block
		[]api.Block{
			block(jump(1), num(0, 3), two(api.OpGt, 1, 0, 0)),
			block(fork(1, 2, 3)),
			block(ret(-1), put(0)),
			block(ret(-1), put(1)),
		},
		[]api.Block{
			block(jump(1), num(0, 3), num(1, 0)),
			block(jump(2)),
			block(ret(-1), put(1)),
		})
	becomes(t, // back to the first one, for ever, or not at all
		[]api.Block{block(fork(0, 0, 1), num(0, 1), put(0)), block(ret(0))},
		[]api.Block{block(jump(0), num(0, 1), put(0))})
	becomes(t,
		[]api.Block{block(fork(0, 0, 1), num(0, 0), put(0)), block(ret(0))},
		[]api.Block{block(jump(1), num(0, 0), put(0)), block(ret(0))})
	becomes(t,
		[]api.Block{block(fork(0, 0, 0), num(0, 0), put(0))},
		[]api.Block{block(jump(0), num(0, 0), put(0))})
}

// Of two ways to one block the one is left that is taken.
func TestBothWaysTheSame(t *testing.T) {
	for _, n := range []int64{0, 1, -1} {
		left := phi(2, 1)
		if n == 0 {
			left = phi(2, 0)
		}
		becomes(t,
			[]api.Block{block(fork(0, 1, 1), num(0, n), num(1, 7)), block(ret(-1), phi(2, 1, 0), put(2))},
			[]api.Block{block(jump(1), num(0, n), num(1, 7)), block(ret(-1), left, put(2))})
	}
	becomes(t, // among others
		[]api.Block{
			block(fork(3, 1, 2), num(0, 0), num(1, 7), num(2, 8), input(3)),
			block(fork(3, 3, 3)),
			block(fork(0, 3, 3)),
			block(fork(3, 4, 3), phi(4, 0, 1, 2, 1, 0), put(4)),
			block(ret(-1)),
		},
		[]api.Block{
			block(fork(3, 1, 2), num(0, 0), num(1, 7), num(2, 8), input(3)),
			block(fork(3, 3, 3)),
			block(jump(3)),
			block(fork(3, 4, 3), phi(4, 0, 1, 1, 0), put(4)),
			block(ret(-1)),
		})
}

// Blocks go, with their ways; the others are numbered anew, in their order.
func TestBlocksThatGo(t *testing.T) {
	becomes(t, // each Phi has what comes of the ways that are left
		[]api.Block{
			block(fork(0, 4, 1), num(0, 1), input(1)),
			block(fork(1, 2, 3), mark(0), num(2, 9), two(api.OpDiv, 3, 0, 0)),
			block(jump(5)),
			block(jump(5)),
			block(fork(1, 5, 6), num(4, 4)),
			block(jump(6), phi(5, 2, 3, 4), phi(6, 2, 2, 0), bind(vInt, 5), put(5), put(6)),
			block(ret(-1), phi(7, 4, 6), put(7)),
		},
		[]api.Block{
			block(jump(1), num(0, 1), input(1)),
			block(fork(1, 2, 3), num(4, 4)),
			block(jump(3), phi(5, 4), phi(6, 0), bind(vInt, 5), put(5), put(6)),
			block(ret(-1), phi(7, 4, 6), put(7)),
		})
	becomes(t, // a for that is never gone through, between others
		[]api.Block{
			block(jump(2), num(0, 0)),
			block(jump(3), mark(0), input(1)),
			block(fork(0, 1, 4), phi(2, 0, 1)),
			block(fork(1, 1, 2)),
			block(ret(-1), put(2), put(0)),
		},
		[]api.Block{
			block(jump(1), num(0, 0)),
			block(jump(2), phi(2, 0)),
			block(ret(-1), put(2), put(0)),
		})
	becomes(t, // all that only blocks lead to that go
		[]api.Block{
			block(fork(0, 5, 1), num(0, 1)),
			block(jump(2), input(1)),
			block(fork(1, 3, 4), phi(2, 0, 1)),
			block(jump(2), put(2)),
			block(jump(5), mark(1)),
			block(ret(-1), phi(3, 0, 2), put(3)),
		},
		[]api.Block{
			block(jump(1), num(0, 1)),
			block(ret(-1), phi(3, 0), put(3)),
		})
	becomes(t, // one that leads back to the first one
		[]api.Block{
			block(fork(1, 1, 3), num(0, 0), input(1), put(1)),
			block(fork(0, 2, 3)),
			block(jump(0)),
			block(ret(1)),
		},
		[]api.Block{
			block(fork(1, 1, 2), num(0, 0), input(1), put(1)),
			block(jump(2)),
			block(ret(1)),
		})
	becomes(t, // what was looked at on the way that is left, and where both met
		[]api.Block{
			block(fork(0, 1, 2), num(0, 1), num(1, 4)),
			block(jump(3), two(api.OpAdd, 2, 1, 0)),
			block(jump(3), one(api.OpNeg, 3, 1)),
			block(ret(4), phi(4, 2, 3), two(api.OpAdd, 5, 4, 0), two(api.OpAdd, 6, 1, 0), put(5), put(6)),
		},
		[]api.Block{
			block(jump(1), num(0, 1), num(1, 4)),
			block(jump(2), num(2, 5)),
			block(ret(4), phi(4, 2), two(api.OpAdd, 5, 4, 0), num(6, 5), put(5), put(6)),
		})
}

// Functions' own numbers, names and so on are kept, and those that are not called are turned, too; Main is where it was.
func TestHeads(t *testing.T) {
	u := inMain(block(ret(-1)))
	u.Funcs = append(u.Funcs,
		api.Func{Name: "", Blocks: []api.Block{block(jump(1)), block(jump(1))}},
		api.Func{Name: "main", Params: 4, Vars: append(vars(), vars()...), Size: 9, Blocks: []api.Block{block(fork(1, 1, 2), num(0, 1), one(api.OpNot, 1, 0)), block(ret(0)), block(ret(1))}},
		api.Func{Name: "main", Result: true, Size: 3, Blocks: []api.Block{block(ret(1), num(2, 4), one(api.OpNeg, 1, 2))}})
	u.Main = 4
	u.Funcs[0].Size, u.Funcs[1].Size = 0, 0
	got := isRight(t, u, run{fuel: 1})
	for n, f := range got.Funcs {
		if f.Size != u.Funcs[n].Size {
			t.Errorf("function %d: Size %d", n, f.Size)
		}
	}
	u.Points = nil
	isRight(t, u, run{fuel: 1})
	u = api.Unit{Funcs: []api.Func{{Blocks: []api.Block{block(ret(-1))}}}}
	if got := isRight(t, u, run{fuel: 1}); !same(got, u) {
		t.Error(tell(got))
	}
}

// What an instruction or an end has no use for stays as it was, where that stays.
func TestWhatSaysNothing(t *testing.T) {
	for _, n := range []int{-7, 0, 1, 3, 1 << 40} {
		u := inMain(
			block(fork(1, 2, 1), num(0, 1), two(api.OpSub, 1, 0, 0), input(2)),
			block(jump(3), mark(0), put(1), one(api.OpNeg, 3, 0), one(api.OpNot, 4, 2)),
			block(jump(3)),
			block(ret(-1), phi(5, 3, 0), call(-1, 1, 0, 5), bind(vInt, -1)),
		)
		filledUp(&u, n)
		got := isRight(t, u, run{9, []int64{1}})
		l := got.Funcs[0].Blocks
		if len(l) != 3 || !same(l[0].Ins[1], num(1, 0)) || !same(l[1].Ins[2], num(3, -1)) || l[0].Term != jump(1) {
			t.Errorf("%s", tell(got))
		}
	}
}

// Programs with what goes wrong in them on the way: it comes at the same place.
func TestTraps(t *testing.T) {
	for _, text := range []string{
		"print(1); print(1 / 0); print(2);",
		"print(1); print(1 % (3 - 3)); print(2);",
		"var x int = 0; if 1 / x == 0 { x = 1; } print(x);",
		"var x int = 1; if x > 2 { print(1 / 0); } print(x / 1);",
		"var x int = 1; for x < 2 { print(8 / (x - 1)); x = x + 1; }",
		"var a [3]int; a[1 + 1] = 5; print(a[2]); a[2 + 1] = 6; print(a[0]);",
		"var a [3]int; print(a[0 - 1]);",
		"var x int = 3; for true { x = input(); print(x); }",
		"var b bool = false; var x int = 1; b = x == 2 && 1 / (x - 1) == 0; print(x);",
		"var x int = 1; for false { x = 2; } for !false { if true { return; } x = 3; } print(x);",
	} {
		isRight(t, source(t, "func main() { "+text+" }"), run{50, nil}, run{50, []int64{1, 2, 3}}, run{2, nil}, run{0, nil})
	}
}

// A function's text, the unit of it, and what becomes of that.
func TestText(t *testing.T) {
	u := source(t, "func main() { var x int = 2; if x > 1 { x = x * 3; } else { x = 1; } print(x); }")
	of := []api.Block{
		block(fork(3, 1, 2), mark(0), num(0, 2), bind(0, 0), mark(1), num(2, 1), two(api.OpGt, 3, 0, 2)),
		block(jump(3), mark(2), num(5, 3), two(api.OpMul, 6, 0, 5), bind(0, 6)),
		block(jump(3), mark(3), num(7, 1), bind(0, 7)),
		block(ret(-1), phi(1, 6, 7), bind(0, 1), mark(4), put(1)),
	}
	want := []api.Block{
		block(jump(1), mark(0), num(0, 2), bind(0, 0), mark(1), num(2, 1), num(3, 1)),
		block(jump(2), mark(2), num(5, 3), num(6, 6), bind(0, 6)),
		block(ret(-1), phi(1, 6), bind(0, 1), mark(4), put(1)),
	}
	got := isRight(t, u, run{9, nil})
	if !same(u.Funcs[0].Blocks, of) || !same(got.Funcs[0].Blocks, want) {
		t.Errorf("%s, of %s", tell(got), tell(u))
	}
}

// The order in which blocks are met turns nothing: all orders of those behind the first one.
func TestOrders(t *testing.T) {
	of := []api.Block{
		block(jump(1), num(0, 3)),
		block(jump(2), one(api.OpNeg, 1, 0)),
		block(fork(2, 4, 3), two(api.OpLt, 2, 1, 0)),
		block(jump(5), put(1), num(3, 9)),
		block(jump(5), put(2), two(api.OpMul, 4, 2, 1)),
		block(ret(5), phi(5, 3, 4), put(5)),
	}
	count := 0
	for order := range orders(5) {
		u := inMain(placed(of, order)...)
		got := isRight(t, u, run{})
		if n := len(got.Funcs[0].Blocks); n != 5 {
			t.Fatalf("%s: %d blocks", tell(got), n)
		}
		count++
	}
	if count != 120 {
		t.Errorf("%d orders", count)
	}
}

// orders goes through all orders of 1 to n.
func orders(n int) func(yield func([]int) bool) {
	return func(yield func([]int) bool) {
		var l []int
		var more func() bool
		more = func() bool {
			if len(l) == n {
				return yield(l)
			}
			for x := 1; x <= n; x++ {
				if slices.Contains(l, x) {
					continue
				}
				l = append(l, x)
				if !more() {
					return false
				}
				l = l[:len(l)-1]
			}
			return true
		}
		more()
	}
}

// placed are blocks of which number b stands at order[b-1], the first one where it was; Phis' Args go with their ways.
func placed(of []api.Block, order []int) []api.Block {
	at := append([]int{0}, order...)
	l := make([]api.Block, len(of))
	for b, x := range copied(of, 0) {
		if x.Term.Kind != api.TermRet {
			x.Term.To = at[x.Term.To]
		}
		if x.Term.Kind == api.TermIf {
			x.Term.Else = at[x.Term.Else]
		}
		l[at[b]] = x
	}
	was, is := waysInto(&api.Func{Blocks: of}), waysInto(&api.Func{Blocks: l})
	for b := range of {
		for n := range of[b].Ins {
			if of[b].Ins[n].Op != api.InsPhi {
				continue
			}
			for way, from := range was[b] {
				l[at[b]].Ins[n].Args[slices.Index(is[at[b]], at[from])] = of[b].Ins[n].Args[way]
			}
		}
	}
	return l
}
