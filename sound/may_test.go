package sound_test

import (
	"math"
	"slices"
	"testing"

	"theodolite/api"
)

// sample is a sound unit with an instruction of each kind that a sound one may have. main has number 1; the functions ahead of it and behind it have 2 parameters and none.
func sample() api.Unit {
	first := api.Func{Name: "f", Params: 2, Result: true, Vars: vars(), Size: 20, Blocks: []api.Block{
		block(jump(1), arg(0, 0), arg(1, 1), mark(0), bind(vInt, 0), bind(vBool, 1)),
		block(fork(2, 2, 4), phi(2, 0, 4), phi(3, 1, 5), mark(1)),
		block(fork(4, 3, 3), two(api.OpAdd, 4, 2, 3), bind(vInt, 4), mark(2)),
		block(jump(1), phi(5, 2, 4), one(api.OpNot, 6, 5), bind(vBool, -1)),
		block(ret(2), mark(3)),
	}}
	body := []api.Ins{
		mark(4), zero(vArray), zero(vStruct), num(0, -7), input(1), store(vArray, 0, 1), load(2, vArray, 1),
		setField(vStruct, 1, 2), field(3, vStruct, 0), call(4, 0, 0, 3), call(-1, 0, 4, 4), call(-1, 2), again(5, 4), put(5),
		one(api.OpNeg, 6, 5),
	}
	for op := api.OpAdd; op <= api.OpOr; op++ {
		body = append(body, two(op, 6+int(op), 6, 5))
	}
	main := api.Func{Name: "main", Vars: vars(), Size: 20, Blocks: []api.Block{block(jump(1), body...), block(ret(-1), mark(5))}}
	last := api.Func{Name: "g", Blocks: []api.Block{block(ret(-1))}}
	u := api.Unit{Funcs: []api.Func{first, main, last}, Main: 1}
	for n, f := range []int{0, 0, 0, 0, 1, 1, 1, 2} {
		p := api.Point{Func: f, Line: n}
		if f < 2 {
			p.Scope = []int{0, 1, 2, 3}
		}
		u.Points = append(u.Points, p)
	}
	return u
}

func TestSample(t *testing.T) { answers(t, sample(), answer{}) }

type change struct {
	name string
	do   func(u *api.Unit)
}

// mayNot: with each of these changes the sample may not be.
func mayNot(t *testing.T, l []change) {
	t.Helper()
	for _, c := range l {
		t.Run(c.name, func(t *testing.T) {
			t.Helper()
			u := sample()
			c.do(&u)
			answers(t, u, answer{e: api.ErrArg})
			if mayBe(u) {
				t.Error("the model says that it may be")
			}
			// What is not sound ahead of it turns nothing (R2).
			u = sample()
			u.Funcs[0].Blocks[0].Ins[2] = put(7)
			c.do(&u)
			answers(t, u, answer{e: api.ErrArg})
		})
	}
}

// may: with each of these it still is sound.
func may(t *testing.T, l []change) {
	t.Helper()
	for _, c := range l {
		t.Run(c.name, func(t *testing.T) {
			t.Helper()
			u := sample()
			c.do(&u)
			answers(t, u, answer{})
			if right := rightAnswer(u); right != (answer{}) {
				t.Errorf("the model says %v", right)
			}
		})
	}
}

func TestFunctionsThatMayNotBe(t *testing.T) {
	mayNot(t, []change{
		{"none", func(u *api.Unit) { *u = api.Unit{} }},
		{"none, but points", func(u *api.Unit) { u.Funcs = nil }},
		{"Main -1", func(u *api.Unit) { u.Main = -1 }},
		{"Main behind the last", func(u *api.Unit) { u.Main = 3 }},
		{"Main far behind", func(u *api.Unit) { u.Main = math.MaxInt }},
		{"Main far below", func(u *api.Unit) { u.Main = math.MinInt }},
		{"main has Params", func(u *api.Unit) { u.Funcs[1].Params = 1 }},
		{"Main has Params", func(u *api.Unit) { u.Main = 0 }},
		{"65 functions", func(u *api.Unit) {
			for len(u.Funcs) < 65 {
				u.Funcs = append(u.Funcs, u.Funcs[2])
			}
		}},
		{"Params -1", notCalled(-1)},
		{"Params far below", notCalled(math.MinInt)},
		{"more Params than Vars", notCalled(someVars + 1)},
		{"many more Params than Vars", notCalled(math.MaxInt)},
		{"no words", func(u *api.Unit) { u.Funcs[1].Vars[0].Words = 0 }},
		{"words below 0", func(u *api.Unit) { u.Funcs[1].Vars[2].Words = math.MinInt }},
		{"17 words", func(u *api.Unit) { u.Funcs[1].Vars[2].Words = 17 }},
		{"17 words of a scalar that is not named", func(u *api.Unit) { u.Funcs[1].Vars[1].Words = 17 }},
		{"no words of the last function's", func(u *api.Unit) { u.Funcs[2].Vars = []api.Var{{Words: 1}, {}} }},
		{"Size above MaxIns", func(u *api.Unit) { u.Funcs[2].Size = api.MaxIns + 1 }},
		{"Size far above", func(u *api.Unit) { u.Funcs[2].Size = math.MaxInt }},
		{"Size far above of a function with virtuals", func(u *api.Unit) { u.Funcs[0].Size = math.MaxInt }},
		{"no blocks", func(u *api.Unit) { u.Funcs[2].Blocks = nil }},
		{"2001 blocks", func(u *api.Unit) { u.Funcs[2].Blocks = rowOf(api.MaxBlocks + 1) }},
		{"too many instructions of one block", func(u *api.Unit) {
			u.Funcs[2].Blocks = []api.Block{block(ret(-1), manyZeros(api.MaxIns+1)...)}
			u.Funcs[2].Vars = vars()
		}},
		{"too many instructions of all blocks", func(u *api.Unit) {
			u.Funcs[2].Blocks = []api.Block{block(jump(1), manyZeros(api.MaxIns-3)...), block(jump(2), manyZeros(2)...), block(ret(-1), manyZeros(2)...)}
			u.Funcs[2].Vars = vars()
		}},
	})
	may(t, []change{
		{"64 functions", func(u *api.Unit) {
			for len(u.Funcs) < 64 {
				u.Funcs = append(u.Funcs, u.Funcs[2])
			}
		}},
		{"Main first", func(u *api.Unit) { u.Main = 2 }},
		{"no Params", notCalled(0)},
		{"as many Params as Vars, not called", notCalled(someVars)},
		{"16 words", func(u *api.Unit) { u.Funcs[1].Vars[2].Words = 16 }},
		{"one word", func(u *api.Unit) { u.Funcs[1].Vars[2].Words = 1 }},
		{"a scalar of 16 words that is not named", func(u *api.Unit) { u.Funcs[1].Vars[1].Words = 16 }},
		{"as many Params as Vars", func(u *api.Unit) {
			u.Funcs[0].Params = 4
			u.Funcs[1].Blocks[0].Ins[9].Args = []int{0, 1, 2, 3}
			u.Funcs[1].Blocks[0].Ins[10].Args = []int{3, 2, 1, 0}
		}},
		{"Size MaxIns", func(u *api.Unit) { u.Funcs[2].Size = api.MaxIns }},
		{"2000 blocks", func(u *api.Unit) { u.Funcs[2].Blocks = rowOf(api.MaxBlocks) }},
		{"MaxIns instructions", func(u *api.Unit) {
			u.Funcs[2].Blocks = []api.Block{block(ret(-1), manyZeros(api.MaxIns)...)}
			u.Funcs[2].Vars = vars()
		}},
		{"MaxIns instructions of all blocks", func(u *api.Unit) {
			u.Funcs[2].Blocks = []api.Block{block(jump(1), manyZeros(api.MaxIns-3)...), block(jump(2), manyZeros(2)...), block(ret(-1), manyZeros(1)...)}
			u.Funcs[2].Vars = vars()
		}},
		{"no names", func(u *api.Unit) { u.Funcs[0].Name, u.Funcs[1].Name, u.Funcs[2].Name = "", "", "" }},
	})
}

// notCalled adds a function of so many Params that nothing calls.
func notCalled(params int) func(u *api.Unit) {
	return func(u *api.Unit) {
		u.Funcs = append(u.Funcs, api.Func{Name: "h", Vars: vars(), Params: params, Blocks: []api.Block{block(ret(-1))}})
	}
}

// rowOf are so many blocks, one behind the other.
func rowOf(n int) []api.Block {
	var l []api.Block
	for b := range n {
		l = append(l, block(jump(b+1)))
	}
	l[n-1].Term = ret(-1)
	return l
}

// manyZeros are so many instructions.
func manyZeros(n int) []api.Ins { return slices.Repeat([]api.Ins{zero(vArray)}, n) }

func TestPointsThatMayNotBe(t *testing.T) {
	mayNot(t, []change{
		{"of function -1", func(u *api.Unit) { u.Points[7].Func = -1 }},
		{"of function 3", func(u *api.Unit) { u.Points[7].Func = 3 }},
		{"of no function at all", func(u *api.Unit) { u.Points[6].Func = math.MaxInt }},
		{"variable -1", func(u *api.Unit) { u.Points[5].Scope[2] = -1 }},
		{"variable 4", func(u *api.Unit) { u.Points[0].Scope[3] = 4 }},
		{"variable of a function without", func(u *api.Unit) { u.Points[7].Scope = []int{0} }},
		{"the first variable", func(u *api.Unit) { u.Points[0].Scope[0] = math.MinInt }},
	})
	may(t, []change{
		{"none of a function", func(u *api.Unit) { u.Points = u.Points[:7] }},
		{"of the last function", func(u *api.Unit) { u.Points[6].Func = 2; u.Points[6].Scope = nil }},
		{"none at all of a unit without Marks", func(u *api.Unit) {
			u.Points = nil
			for f := range u.Funcs {
				for b := range u.Funcs[f].Blocks {
					l := &u.Funcs[f].Blocks[b].Ins
					*l = slices.DeleteFunc(*l, func(i api.Ins) bool { return i.Op == api.InsMark })
				}
			}
		}},
	})
}

func TestEndsThatMayNotBe(t *testing.T) {
	end := func(f, b int, x api.Term) func(u *api.Unit) {
		return func(u *api.Unit) { u.Funcs[f].Blocks[b].Term = x }
	}
	mayNot(t, []change{
		{"jump to -1", end(1, 0, jump(-1))},
		{"jump behind the last", end(1, 0, jump(2))},
		{"jump far behind", end(2, 0, jump(math.MaxInt))},
		{"if to -1", end(0, 2, fork(4, -1, 3))},
		{"if behind the last", end(0, 2, fork(4, 5, 3))},
		{"if, else to -1", end(0, 2, fork(4, 3, -1))},
		{"if, else behind the last", end(0, 2, fork(4, 3, 5))},
		{"if of -1", end(0, 2, fork(-1, 3, 3))},
		{"if of Size", end(0, 2, fork(20, 3, 3))},
		{"return of -2", end(1, 1, ret(-2))},
		{"return of Size", end(1, 1, ret(20))},
		{"return of 0, of a function without virtuals", end(2, 0, ret(0))},
		{"return of the greatest number", end(1, 1, ret(math.MaxInt))},
		{"return of the least number", end(1, 1, ret(math.MinInt))},
	})
	may(t, []change{
		{"return of a value, of a function without result", end(1, 1, ret(5))},
		{"return of none, of a function with a result", end(0, 4, ret(-1))},
		{"return of -1, of a function without virtuals", end(2, 0, ret(-1))},
		{"back to the first block", end(1, 1, jump(0))},
	})
	u := sample()
	u.Funcs[1].Blocks[1].Term = ret(19)
	answers(t, u, answer{})
	u.Funcs[1].Blocks[0].Ins = u.Funcs[1].Blocks[0].Ins[:27] // without what makes it
	answers(t, u, answer{1, 1, 1, api.ErrWrong})
}

// Each part at which an instruction looks, of each kind: -1 and Size are no virtual, Size - 1 is one, made or not.
func TestVirtualsThatMayNotBe(t *testing.T) {
	try := func(name string, make func(v int) api.Ins, ok ...int) {
		t.Helper()
		for _, v := range []int{-1, -2, 8, 9, math.MinInt, math.MaxInt, 7, 0} {
			u := inMain(block(ret(-1), mark(0), mark(1), make(v)))
			want := rightAnswer(u)
			if want.e == api.ErrArg == (v >= 0 && v < 8 || slices.Contains(ok, v)) {
				t.Fatalf("%s of %d: the model says %v", name, v, want)
			}
			if got := asked(u); got != want {
				t.Errorf("%s of %d: %v, want %v", name, v, got, want)
			}
		}
	}
	for op := api.OpAdd; op <= api.OpOr; op++ {
		try("Dst of an operation", func(v int) api.Ins { return two(op, v, 1, 1) })
		try("A of an operation", func(v int) api.Ins { return two(op, 0, v, 1) })
		try("B of an operation", func(v int) api.Ins { return two(op, 0, 1, v) })
	}
	for _, op := range []uint8{api.OpNot, api.OpNeg} {
		try("Dst of an operation of one side", func(v int) api.Ins { return one(op, v, 1) })
		try("A of an operation of one side", func(v int) api.Ins { return one(op, 0, v) })
	}
	try("Dst of Const", func(v int) api.Ins { return num(v, 1) })
	try("Dst of Get", func(v int) api.Ins { return get(v, vInt) })
	try("Dst of Copy", func(v int) api.Ins { return again(v, 1) })
	try("Dst of Load", func(v int) api.Ins { return load(v, vArray, 1) })
	try("Dst of Field", func(v int) api.Ins { return field(v, vStruct, 1) })
	try("Dst of Input", input)
	try("Dst of Call", func(v int) api.Ins { return call(v, 1, 1, 1) }, -1)
	try("A of Set", func(v int) api.Ins { return set(vInt, v) })
	try("A of Copy", func(v int) api.Ins { return again(1, v) })
	try("A of Load", func(v int) api.Ins { return load(1, vArray, v) })
	try("A of Store", func(v int) api.Ins { return store(vArray, v, 1) })
	try("B of Store", func(v int) api.Ins { return store(vArray, 1, v) })
	try("A of SetF", func(v int) api.Ins { return setField(vStruct, 1, v) })
	try("first of Call", func(v int) api.Ins { return call(1, 1, v, 1) })
	try("second of Call", func(v int) api.Ins { return call(-1, 1, 1, v) })
	try("A of Print", put)
	try("A of Bind", func(v int) api.Ins { return bind(vInt, v) }, -1)
}

// The same of Arg and Phi, which do not stand in main's first block.
func TestOtherVirtualsThatMayNotBe(t *testing.T) {
	at := func(f, b, i int, do func(i *api.Ins)) func(u *api.Unit) {
		return func(u *api.Unit) { do(&u.Funcs[f].Blocks[b].Ins[i]) }
	}
	var l []change
	for _, v := range []int{-1, 20, math.MinInt, math.MaxInt} {
		l = append(l, []change{
			{"Dst of Arg", at(0, 0, 0, func(i *api.Ins) { i.Dst = v })},
			{"Dst of Phi", at(0, 1, 0, func(i *api.Ins) { i.Dst = v })},
			{"first of Phi", at(0, 1, 0, func(i *api.Ins) { i.Args[0] = v })},
			{"second of Phi", at(0, 1, 1, func(i *api.Ins) { i.Args[1] = v })},
		}...)
	}
	mayNot(t, l)
}

func TestVariablesThatMayNotBe(t *testing.T) {
	kinds := []struct {
		name string
		make func(v int) api.Ins
		fit  []int
	}{
		{"Get", func(v int) api.Ins { return get(0, v) }, []int{vInt, vBool}},
		{"Set", func(v int) api.Ins { return set(v, 1) }, []int{vInt, vBool}},
		{"Bind", func(v int) api.Ins { return bind(v, 1) }, []int{vInt, vBool}},
		{"Bind of gone", func(v int) api.Ins { return bind(v, -1) }, []int{vInt, vBool}},
		{"Load", func(v int) api.Ins { return load(0, v, 1) }, []int{vArray}},
		{"Store", func(v int) api.Ins { return store(v, 1, 1) }, []int{vArray}},
		{"Field", func(v int) api.Ins { return field(0, v, 0) }, []int{vStruct}},
		{"SetF", func(v int) api.Ins { return setField(v, 0, 1) }, []int{vStruct}},
		{"Zero", zero, []int{vArray, vStruct}},
	}
	for _, k := range kinds {
		for _, v := range []int{vInt, vBool, vArray, vStruct, -1, someVars, math.MinInt, math.MaxInt} {
			u := inMain(block(ret(-1), num(1, 2), k.make(v)))
			want := answer{e: api.ErrArg}
			if slices.Contains(k.fit, v) {
				want = answer{}
				if k.name == "Get" || k.name == "Set" {
					want = answer{0, 0, 1, api.ErrWrong}
				}
			}
			if got := asked(u); got != want {
				t.Errorf("%s of variable %d: %v, want %v", k.name, v, got, want)
			}
			if right := rightAnswer(u); right != want {
				t.Errorf("%s of variable %d: the model says %v", k.name, v, right)
			}
		}
		// A scalar of two words is none of one; an array or a struct may have as many as it likes.
		for _, v := range k.fit {
			u := inMain(block(ret(-1), num(1, 2), k.make(v)))
			u.Funcs[0].Vars[v].Words = 4
			want := rightAnswer(u)
			if got := asked(u); got != want || (want.e == api.ErrArg) != (v <= vBool) {
				t.Errorf("%s of variable %d of 4 words: %v, want %v", k.name, v, got, want)
			}
			// What the type says beside its kind turns nothing.
			u = inMain(block(ret(-1), num(1, 2), k.make(v)))
			u.Funcs[0].Vars[v].Type.N, u.Funcs[0].Vars[v].Type.Name, u.Funcs[0].Vars[v].Fields = 99, "U", nil
			if got, want := asked(u), rightAnswer(u); got != want || want.e == api.ErrArg {
				t.Errorf("%s of variable %d: %v, want %v", k.name, v, got, want)
			}
		}
		// A variable of no kind fits nowhere.
		for _, kind := range []uint8{api.TyNone, 5, 255} {
			u := inMain(block(ret(-1), num(1, 2), k.make(vInt)))
			u.Funcs[0].Vars[vInt].Type.Kind = kind
			if got := asked(u); got != (answer{e: api.ErrArg}) {
				t.Errorf("%s of a variable of kind %d: %v", k.name, kind, got)
			}
		}
	}
}

func TestWordsThatMayNotBe(t *testing.T) {
	for _, n := range []int64{-1, 0, 1, 2, 3, math.MinInt64, math.MaxInt64, 1 << 32} {
		for _, i := range []api.Ins{field(0, vStruct, n), setField(vStruct, n, 1)} {
			u := inMain(block(ret(-1), num(1, 2), i))
			want := answer{}
			if n < 0 || n > 1 {
				want.e = api.ErrArg
			}
			answers(t, u, want)
			u.Funcs[0].Vars[vStruct].Words = 3 // the struct has just these words, whatever its Fields
			answers(t, u, rightAnswer(u))
		}
	}
}

func TestCallsThatMayNotBe(t *testing.T) {
	var l []change
	add := func(name string, do func(i *api.Ins)) {
		l = append(l, change{name, func(u *api.Unit) { do(&u.Funcs[1].Blocks[0].Ins[9]) }})
	}
	for _, n := range []int64{-1, 3, math.MinInt64, math.MaxInt64, 1 << 32} {
		add("of no function", func(i *api.Ins) { i.Num = n })
		add("of no function, without Args", func(i *api.Ins) { i.Num, i.Args = n, nil })
	}
	add("without Args", func(i *api.Ins) { i.Args = nil })
	add("too few Args", func(i *api.Ins) { i.Args = i.Args[:1] })
	add("too many Args", func(i *api.Ins) { i.Args = []int{0, 0, 0} })
	add("too many Args of a function without", func(i *api.Ins) { i.Num, i.Args = 2, []int{0} })
	add("of main with Args", func(i *api.Ins) { i.Num = 1 })
	add("Dst -2", func(i *api.Ins) { i.Dst = -2 })
	l = append(l, change{"more Params", func(u *api.Unit) { u.Funcs[0].Params = 3 }})
	mayNot(t, l)
	l = nil
	add("of main", func(i *api.Ins) { i.Num, i.Args = 1, nil })
	add("of a function without result, kept", func(i *api.Ins) { i.Num, i.Args = 2, nil })
	add("not kept", func(i *api.Ins) { i.Dst = -1 })
	for n := range l { // what is not made is not looked at either
		do := l[n].do
		l[n].do = func(u *api.Unit) {
			do(u)
			u.Funcs[1].Blocks[0].Ins = u.Funcs[1].Blocks[0].Ins[:10]
		}
	}
	may(t, l)
}

func TestMarksThatMayNotBe(t *testing.T) {
	for n, want := range map[int64]api.Errno{-1: api.ErrArg, 8: api.ErrArg, 0: api.OK, 3: api.OK, 4: api.ErrArg, 7: api.ErrArg, math.MinInt64: api.ErrArg, math.MaxInt64: api.ErrArg, 1 << 32: api.ErrArg} {
		answers(t, inMain(block(ret(-1), mark(n))), answer{e: want})
	}
	// The same point is asked for in the other function.
	u := inMain(block(ret(-1)))
	u.Funcs[1].Blocks = []api.Block{block(ret(-1), mark(4), mark(7))}
	answers(t, u, answer{})
	u.Funcs[1].Blocks[0].Ins[1].Num = 3
	answers(t, u, answer{e: api.ErrArg})
	u.Points = nil
	answers(t, u, answer{e: api.ErrArg})
}

func TestPhisThatMayNotBe(t *testing.T) {
	two := func(l ...api.Ins) []api.Block {
		return []api.Block{block(fork(0, 1, 2), num(0, 1)), block(jump(2)), block(ret(-1), l...)}
	}
	for _, c := range []struct {
		name   string
		blocks []api.Block
		want   answer
	}{
		{"at the head", two(phi(1, 0, 0), phi(2, 0, 0), mark(0)), answer{}},
		{"behind a Mark", two(mark(0), phi(1, 0, 0)), answer{e: api.ErrArg}},
		{"behind a Phi and a Const", two(phi(1, 0, 0), num(2, 1), phi(3, 0, 0)), answer{e: api.ErrArg}},
		{"behind a Bind of a Phi", two(phi(1, 0, 0), bind(vInt, 1), phi(3, 0, 0)), answer{e: api.ErrArg}},
		{"too few Args", two(phi(1, 0)), answer{e: api.ErrArg}},
		{"no Args", two(phi(1)), answer{e: api.ErrArg}},
		{"too many Args", two(phi(1, 0, 0, 0)), answer{e: api.ErrArg}},
		{"the second with too few", two(phi(1, 0, 0), phi(2, 0)), answer{e: api.ErrArg}},
		{"in the first block", []api.Block{block(ret(-1), phi(1))}, answer{e: api.ErrArg}},
		{"in the first block, with a way in", []api.Block{block(jump(1), phi(1, 1)), block(jump(0), num(2, 1))}, answer{e: api.ErrArg}},
		{"with both sides of one end", []api.Block{block(fork(0, 1, 1), num(0, 1)), block(ret(1), phi(1, 0, 0))}, answer{}},
		{"with one Arg for both sides", []api.Block{block(fork(0, 1, 1), num(0, 1)), block(ret(1), phi(1, 0))}, answer{e: api.ErrArg}},
		{"with the way from where no way leads", []api.Block{block(jump(1), num(0, 1)), block(ret(-1), phi(1, 0, 0)), block(jump(1))}, answer{0, 1, 0, api.ErrWrong}},
		{"without it", []api.Block{block(jump(1), num(0, 1)), block(ret(-1), phi(1, 0)), block(jump(1))}, answer{e: api.ErrArg}},
		{"where no way leads", []api.Block{block(ret(-1)), block(jump(1), phi(0, 0))}, answer{0, 1, 0, api.ErrWrong}},
	} {
		t.Run(c.name, func(t *testing.T) {
			u := inMain(c.blocks...)
			answers(t, u, c.want)
			if right := rightAnswer(u); right != c.want {
				t.Errorf("the model says %v", right)
			}
		})
	}
}

// What an instruction, or an end, has not says nothing, whatever stands there.
func TestWhatSaysNothing(t *testing.T) {
	for _, n := range []int{-2, 0, 3, 5000, math.MinInt, math.MaxInt} {
		u := sample()
		for f := range u.Funcs {
			for b := range u.Funcs[f].Blocks {
				for i := range u.Funcs[f].Blocks[b].Ins {
					fill(&u.Funcs[f].Blocks[b].Ins[i], n)
				}
				fillEnd(&u.Funcs[f].Blocks[b].Term, n)
			}
		}
		answers(t, u, answer{})
	}
}

// fill writes a number in each part that an instruction has not.
func fill(i *api.Ins, n int) {
	sees := len(looks(i))
	if !makes(i) && i.Op != api.InsCall {
		i.Dst = n
	}
	if i.Op == api.InsCall || i.Op == api.InsPhi {
		i.A, i.B, i.Var = n, n, n
		if i.Op == api.InsPhi {
			i.Num = int64(n)
		}
		return
	}
	i.Args = []int{n, n}
	if sees < 2 {
		i.B = n
	}
	if sees < 1 && i.Op != api.InsBind {
		i.A = n
	}
	if i.Op < api.InsGet || i.Op == api.InsCopy || i.Op == api.InsInput || i.Op == api.InsPrint || i.Op == api.InsMark {
		i.Var = n
	}
	switch i.Op {
	case api.InsConst, api.InsArg, api.InsField, api.InsSetF, api.InsMark:
	default:
		i.Num = int64(n)
	}
}

func fillEnd(t *api.Term, n int) {
	switch t.Kind {
	case api.TermJump:
		t.A, t.Else = n, n
	case api.TermRet:
		t.To, t.Else = n, n
	}
}
