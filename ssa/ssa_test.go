package ssa_test

import (
	"slices"
	"testing"

	"theodolite/api"
)

// The chapter's example: the condition's block has a Phi of 1 and what the body made, and a Bind of it.
func TestExample(t *testing.T) {
	u := source(t, "func main() { var x int = 1; for x > 0 { x = x - 1; } }")
	got := isRight(t, u, run{fuel: 9}, run{fuel: 3})
	l := got.Funcs[0].Blocks[1].Ins
	if l[0].Op != api.InsPhi || !same(l[0], phi(l[0].Dst, l[0].Args...)) || !same(l[1], bind(0, l[0].Dst)) {
		t.Fatal(tell(got))
	}
	first, body := madeBy(t, got, l[0].Args[0]), madeBy(t, got, l[0].Args[1])
	if first.Op != api.InsConst || first.Num != 1 || body.Op != api.OpSub || body.A != l[0].Dst {
		t.Errorf("a Phi of %s and %s", tellIns(&first), tellIns(&body))
	}
}

// madeBy is the instruction of main that makes a virtual.
func madeBy(t *testing.T, u api.Unit, v int) api.Ins {
	t.Helper()
	for _, b := range u.Funcs[u.Main].Blocks {
		if n := slices.IndexFunc(b.Ins, func(i api.Ins) bool { return makes(&i) && i.Dst == v }); n >= 0 {
			return b.Ins[n]
		}
	}
	t.Fatalf("nothing makes %d", v)
	return api.Ins{}
}

// phisAre: of a function's blocks, those that have Phis, and of which scalars each.
func phisAre(t *testing.T, u api.Unit, n int, want map[int][]int) {
	t.Helper()
	got := isRight(t, u, someRuns()...)
	for b, x := range got.Funcs[n].Blocks {
		heads, rest := headsOf(x.Ins)
		var l []int
		for k := range heads {
			l = append(l, rest[k].Var)
		}
		slices.Sort(l)
		if !slices.Equal(l, want[b]) {
			t.Errorf("%s: block %d has Phis of %d, want %d", tell(got), b, l, want[b])
		}
	}
}

func someRuns() []run {
	return []run{{0, nil}, {40, nil}, {7, []int64{1, 0, 1}}, {40, []int64{1, 1, 1, 0, 1, 0, 0, 1}}, {40, []int64{0, 0, 0, 0, 0}}, {40, []int64{1, 2, 3, 4, 5, 6, 7, 8, 9, 10}}, {40, []int64{0, 1, 0, 1, 1, 0, 1, 1, 1, 0, 1, 0, 0, 0}}}
}

// Which Phis there are, of units that have an input for each fork. What is looked at, or set, is told by numbers: a scalar's own, or its own and 10 more.
func TestPhis(t *testing.T) {
	fork := func(to, other int) api.Term { return api.Term{Kind: api.TermIf, To: to, Else: other} }
	const x, y, setX, setY = 0, 1, 10, 11
	for _, c := range []struct {
		name   string
		blocks []part
		phis   map[int][]int
	}{
		{"one block", []part{{ret(-1), []int{setX, x}}}, nil},
		{"nothing at all", []part{{ret(-1), nil}}, nil},
		{"an if, both set", []part{{fork(1, 2), nil}, {jump(3), []int{setX}}, {jump(3), []int{setX}}, {ret(-1), []int{x}}}, map[int][]int{3: {x}}},
		{"an if, one sets", []part{{fork(1, 2), []int{setX}}, {jump(3), []int{setX}}, {jump(3), nil}, {ret(-1), []int{x}}}, map[int][]int{3: {x}}},
		{"an if, set ahead alone", []part{{fork(1, 2), []int{setX}}, {jump(3), []int{x}}, {jump(3), nil}, {ret(-1), []int{x}}}, nil},
		{"an if, set behind alone", []part{{fork(1, 2), nil}, {jump(3), nil}, {jump(3), nil}, {ret(-1), []int{setX, x}}}, nil},
		{"an if, one of two ways has no Set", []part{{fork(1, 2), nil}, {jump(3), []int{setX, x}}, {jump(3), nil}, {ret(-1), nil}}, nil},
		{"nobody looks, but there is one", []part{{fork(1, 2), nil}, {jump(3), []int{setX}}, {jump(3), []int{setX}}, {ret(-1), nil}}, map[int][]int{3: {x}}},
		{"nobody looks, as it is set anew", []part{{fork(1, 2), []int{setX}}, {jump(2), []int{setX}}, {ret(-1), []int{setX, x}}}, map[int][]int{2: {x}}},
		{"both ways the same", []part{{fork(1, 1), []int{setX}}, {ret(-1), []int{x}}}, nil},
		{"two of two", []part{{fork(1, 2), []int{setX, setY}}, {jump(3), []int{setY, setX}}, {jump(3), []int{x, y}}, {ret(-1), []int{x, y}}}, map[int][]int{3: {x, y}}},
		{"each at another place", []part{{fork(1, 2), []int{setX, setY}}, {jump(2), []int{setX}}, {fork(3, 4), []int{x, y}}, {jump(4), []int{setY}}, {ret(-1), []int{x, y}}}, map[int][]int{2: {x}, 4: {y}}},
		{"by edges twice: the first one's Phi is a Set for the second", []part{
			{fork(1, 4), []int{setX}}, {fork(2, 3), nil}, {jump(3), []int{setX}}, {jump(5), nil}, {jump(5), nil}, {ret(-1), []int{x}},
		}, map[int][]int{3: {x}, 5: {x}}},
		{"by edges twice, but the first one is not reached with a Set alone", []part{
			{fork(1, 4), nil}, {fork(2, 3), nil}, {jump(3), []int{setX}}, {jump(5), []int{setX}}, {jump(5), []int{setX}}, {ret(-1), []int{x}},
		}, map[int][]int{5: {x}}},
		{"by an edge where no Phi is", []part{
			{fork(1, 4), nil}, {fork(2, 3), nil}, {jump(3), []int{setX}}, {fork(5, 6), nil}, {jump(6), nil}, {jump(6), nil}, {ret(-1), nil},
		}, nil},
		{"a for, set in it", []part{{jump(1), []int{setX}}, {fork(2, 3), []int{x}}, {jump(1), []int{x, setX}}, {ret(-1), []int{x}}}, map[int][]int{1: {x}}},
		{"a for, set in it alone", []part{{jump(1), nil}, {fork(2, 3), nil}, {jump(1), []int{setX, x}}, {ret(-1), nil}}, nil},
		{"a for, set ahead alone", []part{{jump(1), []int{setX}}, {fork(2, 3), []int{x}}, {jump(1), []int{x}}, {ret(-1), []int{x}}}, nil},
		{"a for, set at its head", []part{{jump(1), []int{setX}}, {fork(2, 3), []int{x, setX}}, {jump(1), []int{x}}, {ret(-1), []int{x}}}, map[int][]int{1: {x}}},
		{"a block that goes to itself", []part{{jump(1), []int{setX}}, {fork(1, 2), []int{x, setX, x}}, {ret(-1), []int{x}}}, map[int][]int{1: {x}}},
		{"twice to itself", []part{{jump(1), []int{setX}}, {fork(1, 1), []int{x, setX, x}}}, map[int][]int{1: {x}}},
		{"a for in a for", []part{
			{jump(1), []int{setX, setY}}, {fork(2, 5), []int{x, y}}, {fork(3, 4), []int{x, y}}, {jump(2), []int{setX}}, {jump(1), []int{setY}}, {ret(-1), []int{x, y}},
		}, map[int][]int{1: {x, y}, 2: {x}}},
		{"two that go to each other, each from without", []part{
			{fork(1, 2), []int{setX}}, {jump(2), []int{x, setX}}, {fork(1, 3), []int{x}}, {ret(-1), []int{x}},
		}, map[int][]int{1: {x}, 2: {x}}},
		{"those ends that come back by other ways", []part{
			{fork(3, 2), []int{setX}}, {ret(-1), []int{x}}, {fork(1, 3), []int{setX}}, {fork(2, 1), []int{x}},
		}, map[int][]int{1: {x}, 2: {x}, 3: {x}}},
		{"a Phi of a Phi of itself", []part{
			{jump(1), []int{setX, setY}}, {fork(2, 3), []int{x, y}}, {jump(1), []int{x, setY}}, {jump(1), []int{y, setX}},
		}, map[int][]int{1: {x, y}}},
		{"an end that no way goes on from", []part{{fork(1, 2), []int{setX}}, {ret(-1), []int{setX}}, {ret(-1), []int{x}}}, nil},
		{"all ways from one end alone", []part{{fork(1, 2), nil}, {ret(-1), nil}, {jump(3), []int{setX}}, {ret(-1), []int{x}}}, nil},
		{"blocks in another order", []part{{fork(4, 3), []int{setX}}, {ret(-1), []int{x}}, {jump(1), nil}, {jump(2), []int{setX}}, {jump(2), nil}}, map[int][]int{2: {x}}},
	} {
		t.Run(c.name, func(t *testing.T) { phisAre(t, unitOf(c.blocks), 0, c.phis) })
	}
}

// part is a block of a unit with inputs: what it looks at, and what it sets.
type part struct {
	end api.Term
	do  []int
}

// unitOf is a unit whose main has these blocks. What is looked at is printed, and stands in a Mark's scope; each Set is of a number of its own; an end that forks asks for an input.
func unitOf(l []part) api.Unit {
	u := inMain()
	f := &u.Funcs[0]
	f.Size, u.Points = 0, nil
	virtual := func() int {
		f.Size++
		return f.Size - 1
	}
	for b, p := range l {
		k := block(p.end)
		k.Ins = append(k.Ins, markIn(&u))
		for n, x := range p.do {
			if v := virtual(); x >= 10 {
				k.Ins = append(k.Ins, num(v, int64(100*b+n)), set(x-10, v))
			} else {
				k.Ins = append(k.Ins, markIn(&u, x), get(v, x), put(v))
			}
		}
		if k.Term.Kind == api.TermIf {
			k.Term.A = virtual()
			k.Ins = append(k.Ins, input(k.Term.A))
		}
		f.Blocks = append(f.Blocks, k)
	}
	return u
}

// markIn is a Mark of a new point, in whose scope these variables stand.
func markIn(u *api.Unit, scope ...int) api.Ins {
	u.Points = append(u.Points, api.Point{Line: len(u.Points), Scope: scope})
	return mark(int64(len(u.Points)) - 1)
}

// Each instruction is kept that is to be, and looks at what it did: of a Get at what was known there, though there was a Set behind it.
func TestKept(t *testing.T) {
	u := inMain(block(ret(6),
		input(0), input(1), set(vInt, 1), get(2, vInt), set(vInt, 0), get(3, vInt), mark(0),
		zero(vArray), zero(vStruct), store(vArray, 3, 2), load(4, vArray, 3), setField(vStruct, 1, 2), field(5, vStruct, 1),
		call(6, 1, 2, 3), call(-1, 1, 6, 2), put(2), put(3), put(4), put(5), put(6), two(api.OpSub, 7, 2, 3), put(7), one(api.OpNeg, 8, 2), put(8),
	))
	u.Funcs[0].Size = 9
	u.Funcs[1].Blocks = []api.Block{block(ret(2), arg(0, 0), arg(1, 1), set(vInt, 0), set(vBool, 1), mark(4), get(2, vBool), get(3, vInt), put(3))}
	u.Points[0].Scope, u.Points[4].Scope = []int{vInt, vArray, vStruct}, []int{vInt, vBool, vArray, vStruct}
	got := isRight(t, u, run{9, []int64{1, -9}}, run{0, []int64{1, 5}}, run{1, nil})
	if s := traceOf(got, run{9, []int64{1, -9}}); s != "M0,0=1 C1 M4,0=-9,1=1 O-9 B C1 M4,0=1,1=-9 O1 B O-9 O1 O-9 O-9 O1 O-10 O9 H" {
		t.Error(s)
	}
	l := got.Funcs[0].Blocks[0].Ins
	for _, want := range []api.Ins{mark(0), zero(vArray), zero(vStruct), store(vArray, 0, 1), load(4, vArray, 0), setField(vStruct, 1, 1), field(5, vStruct, 1), call(6, 1, 1, 0), call(-1, 1, 6, 1), input(0), input(1), put(1), put(0), put(4), put(5), put(6)} {
		if !slices.ContainsFunc(l, func(i api.Ins) bool { return same(i, want) }) {
			t.Errorf("%s: no %s", tell(got), tellIns(&want))
		}
	}
	if got.Funcs[0].Blocks[0].Term != ret(6) {
		t.Errorf("it gives back %v", got.Funcs[0].Blocks[0].Term)
	}
}

// What an end looks at is what was known, too.
func TestEnds(t *testing.T) {
	u := inMain(
		block(fork(1, 1, 2), input(0), set(vInt, 0), get(1, vInt)),
		block(ret(2), get(2, vInt)),
		block(ret(-1), num(3, 5), set(vInt, 3), mark(1)),
	)
	u.Funcs[0].Size = 4
	u.Points[1].Scope = []int{vInt}
	got := isRight(t, u, run{9, []int64{0}}, run{9, []int64{1}})
	f := got.Funcs[0]
	if i := f.Blocks[0].Ins[1]; !same(i, bind(vInt, 0)) {
		t.Errorf("%s: where the Set was is %s", tell(got), tellIns(&i))
	}
	if f.Blocks[0].Term != fork(0, 1, 2) || f.Blocks[1].Term != ret(0) || f.Blocks[2].Term != ret(-1) {
		t.Error(tell(got))
	}
}

// What stands in parts of which an instruction has no use stays as it was; so does what an end has so.
func TestWhatSaysNothing(t *testing.T) {
	for _, n := range []int{-7, 0, 3, 1 << 40} {
		u := inMain(
			block(jump(1), num(0, 1), set(vInt, 0), get(1, vInt), mark(0), zero(vArray), store(vArray, 1, 1), setField(vStruct, 1, 1), call(-1, 1, 1, 1), put(1)),
			block(fork(5, 2, 2), call(2, 1, 0, 0), input(3), num(4, 0), load(5, vArray, 4), field(6, vStruct, 1), num(7, 0)),
			block(ret(-1)),
		)
		u.Points[0].Scope = nil
		u.Funcs[0].Blocks[1].Ins[0].Args = []int{7, 7}
		l := u.Funcs[0].Blocks[1].Ins
		l[0], l[5] = l[5], l[0] // the 7 ahead of the Call
		for b := range u.Funcs[0].Blocks {
			x := &u.Funcs[0].Blocks[b]
			for i := range x.Ins {
				fill(&x.Ins[i], n)
			}
			fillEnd(&x.Term, n)
		}
		isRight(t, u, run{9, []int64{1}}, run{9, nil})
	}
}

// fill puts a number into all parts of an instruction that say nothing.
func fill(i *api.Ins, n int) {
	sees := len(looks(i))
	if !makes(i) && i.Op != api.InsCall {
		i.Dst = n
	}
	if i.Op == api.InsCall {
		i.A, i.B, i.Var = n, n, n
		return
	}
	i.Args = []int{n, n}
	if sees < 2 {
		i.B = n
	}
	if sees < 1 {
		i.A = n
	}
	if i.Op < api.InsGet || i.Op == api.InsInput || i.Op == api.InsPrint || i.Op == api.InsMark {
		i.Var = n
	}
	switch i.Op {
	case api.InsConst, api.InsArg, api.InsField, api.InsSetF, api.InsMark:
	default:
		i.Num = int64(n)
	}
}

func fillEnd(end *api.Term, n int) {
	switch end.Kind {
	case api.TermJump:
		end.A, end.Else = n, n
	case api.TermRet:
		end.To, end.Else = n, n
	}
}

// Functions' own numbers, names and so on are kept, of functions that are not called too; Main is where it was.
func TestHeads(t *testing.T) {
	u := inMain(block(ret(-1)))
	u.Funcs = append(u.Funcs, api.Func{Name: "", Blocks: []api.Block{block(jump(1)), block(jump(1))}}, api.Func{Name: "main", Params: 4, Vars: append(vars(), vars()...), Blocks: []api.Block{block(ret(-1))}})
	u.Main = 2
	u.Funcs[2].Result = true
	u.Funcs[0].Size, u.Funcs[1].Size = 0, 0
	isRight(t, u, run{fuel: 1})
	u.Points = nil
	isRight(t, u, run{fuel: 1})
	u = api.Unit{Funcs: []api.Func{{Blocks: []api.Block{block(ret(-1))}}}}
	isRight(t, u, run{fuel: 1})
}

// Programs with what goes wrong in them on the way: it comes at the same place.
func TestTraps(t *testing.T) {
	for _, text := range []string{
		"var x int = 0; for x < 9 { print(8 / (4 - x)); x = x + 1; }",
		"var x int = 0; if 1 % x == 0 { x = 1; } print(x);",
		"var x int = 0; var a [3]int; for true { a[x] = x; x = x + a[x] + 1; print(x); }",
		"var x int = 0; for true { x = input(); print(x); }",
		"var b bool = false; var x int = 1; x = 2; b = x == 2 && 1 / (x - 2) == 0; print(x);",
	} {
		isRight(t, source(t, "func main() { "+text+" }"), someRuns()...)
	}
}

func TestCalls(t *testing.T) {
	isRight(t, source(t, `func f(n int, b bool) int {
	var back int = 0;
	if n > 0 { n = n - 1; back = f(n, !b); if b { back = back + n; } else { n = back; } print(n); } else { b = false; }
	for b { back = back * 2; b = back < 20 && back > 0; }
	return back + 1;
}
func g() { f(1, true); }
func main() { var x int = 3; var y int = 0; for x > 0 { y = f(x, x == 2); print(y); g(); x = x - 1; } }`), run{fuel: 1000}, run{fuel: 17}, run{fuel: 100})
}
