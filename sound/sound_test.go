package sound_test

import (
	"testing"

	"theodolite/api"
)

// The chapter's examples.
func TestExamples(t *testing.T) {
	answers(t, inMain(block(ret(-1), num(0, 2), put(0))), answer{})
	answers(t, inMain(block(ret(-1), put(0), num(0, 2))), answer{0, 0, 0, api.ErrWrong})
	answers(t, inMain(block(ret(-1), num(0, 2), num(0, 3))), answer{0, 0, 1, api.ErrWrong})
}

// One is a unit's name, what main does in it, and where that is wrong; nowhere, if at is none.
type oneCase struct {
	name   string
	blocks []api.Block
	at     []int
}

func hold(t *testing.T, l []oneCase) {
	t.Helper()
	for _, c := range l {
		t.Run(c.name, func(t *testing.T) {
			t.Helper()
			u := inMain(c.blocks...)
			want := answer{}
			if len(c.at) > 0 {
				want = answer{0, c.at[0], c.at[1], api.ErrWrong}
			}
			answers(t, u, want)
			if right := rightAnswer(u); right != want {
				t.Errorf("the model says %v", right)
			}
		})
	}
}

// 1: no way leads to the block.
func TestNoWay(t *testing.T) {
	hold(t, []oneCase{
		{"alone", []api.Block{block(ret(-1)), block(ret(-1))}, []int{1, 0}},
		{"with instructions", []api.Block{block(ret(-1)), block(ret(-1), mark(0), num(0, 1))}, []int{1, 0}},
		{"to itself", []api.Block{block(ret(-1)), block(jump(1))}, []int{1, 0}},
		{"of each other", []api.Block{block(jump(3)), block(jump(2)), block(jump(1)), block(ret(-1))}, []int{1, 0}},
		{"in between", []api.Block{block(jump(2)), block(jump(2)), block(ret(-1))}, []int{1, 0}},
		{"last", []api.Block{block(jump(1)), block(ret(-1)), block(jump(1))}, []int{2, 0}},
		{"behind another fault", []api.Block{block(ret(-1), put(0)), block(ret(-1))}, []int{0, 0}},
		{"ahead of another fault", []api.Block{block(jump(2)), block(ret(-1)), block(ret(-1), put(0))}, []int{1, 0}},
		{"to the first one", []api.Block{block(jump(0))}, nil},
		{"from behind", []api.Block{block(jump(2)), block(ret(-1)), block(jump(1))}, nil},
		{"of an if's other side", []api.Block{block(fork(0, 2, 1), num(0, 1)), block(ret(-1)), block(ret(-1))}, nil},
	})
}

// 2: it is an InsGet or InsSet.
func TestGetAndSet(t *testing.T) {
	hold(t, []oneCase{
		{"Get", []api.Block{block(ret(-1), mark(0), get(0, vInt))}, []int{0, 1}},
		{"Set", []api.Block{block(ret(-1), num(0, 1), set(vBool, 0))}, []int{0, 1}},
		{"Set, then Get", []api.Block{block(jump(1), num(0, 1)), block(ret(-1), num(1, 2), set(vInt, 0), get(2, vInt))}, []int{1, 1}},
		{"what is much like them", []api.Block{block(ret(-1), num(0, 1), bind(vInt, 0), again(1, 0), bind(vBool, 1), bind(vInt, -1), bind(vInt, 1))}, nil},
	})
}

// 3: it looks at a virtual that is not there; each kind of instruction, in each part that it looks at.
func TestLooks(t *testing.T) {
	var l []oneCase
	add := func(name string, i api.Ins) {
		l = append(l, oneCase{name, []api.Block{block(ret(-1), num(0, 1), mark(0), i)}, []int{0, 2}})
	}
	fine := func(name string, i api.Ins) {
		l = append(l, oneCase{name, []api.Block{block(ret(-1), num(0, 1), mark(0), i)}, nil})
	}
	for op := api.OpAdd; op <= api.OpOr; op++ {
		add("A of an operation", two(op, 2, 1, 0))
		add("B of an operation", two(op, 2, 0, 1))
		fine("an operation", two(op, 2, 0, 0))
	}
	for _, op := range []uint8{api.OpNot, api.OpNeg} {
		add("A of an operation of one side", one(op, 2, 1))
		fine("an operation of one side", one(op, 2, 0))
	}
	add("Copy", again(2, 1))
	add("its own", again(2, 2))
	add("Load", load(2, vArray, 1))
	add("A of Store", store(vArray, 1, 0))
	add("B of Store", store(vArray, 0, 1))
	add("SetF", setField(vStruct, 1, 1))
	add("Call, first", call(2, 1, 1, 0))
	add("Call, second", call(2, 1, 0, 1))
	add("Call of itself", call(2, 1, 0, 2))
	add("Call of nothing that is kept", call(-1, 1, 0, 1))
	add("Print", put(1))
	add("Bind", bind(vInt, 1))
	fine("Copy", again(2, 0))
	fine("Load", load(2, vArray, 0))
	fine("Store", store(vArray, 0, 0))
	fine("Field", field(2, vStruct, 1))
	fine("SetF", setField(vStruct, 1, 0))
	fine("Zero", zero(vArray))
	fine("Call", call(2, 1, 0, 0))
	fine("Call of nothing that is kept", call(-1, 1, 0, 0))
	fine("Print", put(0))
	fine("Input", input(2))
	fine("Bind", bind(vInt, 0))
	fine("Bind, gone", bind(vInt, -1))
	hold(t, l)
}

func TestLooksOfEnds(t *testing.T) {
	hold(t, []oneCase{
		{"if", []api.Block{block(fork(1, 1, 1), num(0, 1)), block(ret(-1))}, []int{0, 1}},
		{"if, made behind", []api.Block{block(fork(1, 1, 1), num(0, 1)), block(ret(-1), num(1, 1))}, []int{0, 1}},
		{"if, made last", []api.Block{block(fork(1, 1, 1), num(0, 1), num(1, 1)), block(ret(-1))}, nil},
		{"if, made above", []api.Block{block(jump(1), num(0, 1)), block(fork(0, 2, 1)), block(ret(-1))}, nil},
		{"return", []api.Block{block(ret(3), num(0, 1), mark(0), mark(1))}, []int{0, 3}},
		{"return of an empty block", []api.Block{block(ret(0))}, []int{0, 0}},
		{"return, made", []api.Block{block(ret(0), num(0, 1))}, nil},
		{"return, made above", []api.Block{block(jump(1), num(0, 1)), block(ret(0), mark(0))}, nil},
		{"return of nothing", []api.Block{block(ret(-1))}, nil},
		{"jump", []api.Block{block(api.Term{Kind: api.TermJump, A: 3, To: 1}), block(ret(-1))}, nil},
	})
}

// What stands over a place, and what only stands ahead of it.
func TestOver(t *testing.T) {
	diamond := func(l ...api.Block) []api.Block {
		return append([]api.Block{block(fork(0, 1, 2), num(0, 1))}, l...)
	}
	hold(t, []oneCase{
		{"made on one side", diamond(block(jump(3), num(1, 1)), block(jump(3)), block(ret(-1), put(1))), []int{3, 0}},
		{"made on the other side", diamond(block(jump(3)), block(jump(3), num(1, 1)), block(ret(-1), mark(0), put(1))), []int{3, 1}},
		{"made on this side", diamond(block(jump(3), num(1, 1), put(1)), block(jump(3), put(0)), block(ret(-1), put(0))), nil},
		{"looked at on the other side", diamond(block(jump(3), num(1, 1)), block(jump(3), put(1)), block(ret(-1))), []int{2, 0}},
		{"made in a block with a higher number", []api.Block{block(jump(2)), block(ret(1), put(1)), block(jump(1), num(1, 1))}, nil},
		{"made behind, in a block with a lower number", []api.Block{block(jump(2)), block(ret(-1), num(1, 1)), block(jump(1), put(1))}, []int{2, 0}},
		{"made far above", []api.Block{block(jump(1), num(0, 1)), block(fork(0, 2, 4)), block(fork(0, 3, 3)), block(jump(1), put(0)), block(ret(0), put(0))}, nil},
		{"made in a loop that may not be gone through", []api.Block{block(jump(1), num(0, 1)), block(fork(0, 2, 3)), block(jump(1), num(1, 1)), block(ret(1))}, []int{3, 0}},
		{"made in a loop, looked at in the next round", []api.Block{block(jump(1), num(0, 1)), block(fork(0, 2, 3), put(1)), block(jump(1), num(1, 1)), block(ret(-1))}, []int{1, 0}},
		{"made behind it in its own loop", []api.Block{block(fork(0, 0, 1), put(0), num(0, 1)), block(ret(-1))}, []int{0, 0}},
		{"never made", []api.Block{block(jump(1), num(0, 1)), block(ret(-1), put(0), put(7))}, []int{1, 1}},
		{"made where no way leads, and looked at ahead of that", []api.Block{block(jump(1)), block(ret(-1), put(0)), block(jump(1), num(0, 1))}, []int{1, 0}},
		{"made first where it does not stand over, then where it does", []api.Block{block(jump(3)), block(jump(2), put(0)), block(ret(-1), num(0, 1)), block(jump(1), num(0, 2))}, []int{1, 0}},
	})
}

// 3, of a Phi: of each way its own Arg, at the end of the block that it comes from.
func TestPhis(t *testing.T) {
	diamond := func(l ...api.Block) []api.Block {
		return append([]api.Block{block(fork(0, 1, 2), num(0, 1))}, l...)
	}
	loop := func(l ...api.Ins) []api.Block {
		return []api.Block{block(jump(1), num(0, 1)), block(fork(0, 2, 3), l...), block(jump(1), num(1, 1)), block(ret(-1))}
	}
	hold(t, []oneCase{
		{"one of each side", diamond(block(jump(3), num(1, 1)), block(jump(3), num(2, 1)), block(ret(3), phi(3, 1, 2))), nil},
		{"changed about", diamond(block(jump(3), num(1, 1)), block(jump(3), num(2, 1)), block(ret(3), phi(3, 2, 1))), []int{3, 0}},
		{"first right, second wrong", diamond(block(jump(3), num(1, 1)), block(jump(3), num(2, 1)), block(ret(3), phi(3, 1, 1))), []int{3, 0}},
		{"first wrong, second right", diamond(block(jump(3), num(1, 1)), block(jump(3), num(2, 1)), block(ret(3), phi(3, 2, 2))), []int{3, 0}},
		{"of both what stands over both", diamond(block(jump(3)), block(jump(3)), block(ret(-1), phi(3, 0, 0), phi(4, 0, 0))), nil},
		{"of the Phi ahead", diamond(block(jump(3)), block(jump(3)), block(ret(-1), phi(3, 0, 0), phi(4, 0, 3))), []int{3, 1}},
		{"of the block's own, which comes round", loop(phi(2, 0, 2)), nil},
		{"of the next one's, which comes round", loop(phi(2, 0, 3), phi(3, 0, 2)), nil},
		{"of what the loop makes", loop(phi(2, 0, 1)), nil},
		{"of what the block makes behind it", loop(phi(2, 0, 3), num(3, 1)), nil},
		{"of its own on the way in", loop(phi(2, 2, 0)), []int{1, 0}},
		{"of what the loop makes on the way in", loop(phi(2, 1, 1)), []int{1, 0}},
		{"of what is never made", loop(phi(2, 0, 0), phi(3, 0, 6)), []int{1, 1}},
		{"of one block that is its own way in", []api.Block{block(jump(1), num(0, 1)), block(fork(2, 1, 2), phi(1, 0, 2), again(2, 1)), block(ret(1))}, nil},
		{"of both sides of one end", []api.Block{block(fork(0, 1, 1), num(0, 1), num(1, 1)), block(ret(2), phi(2, 0, 1))}, nil},
		{"of both sides of one end, one not made", []api.Block{block(fork(0, 1, 1), num(0, 1)), block(ret(2), phi(2, 0, 1), num(1, 1))}, []int{1, 0}},
		{"of the last one that its block makes", diamond(block(jump(3), put(0), num(1, 1)), block(jump(3)), block(ret(-1), phi(3, 1, 0))), nil},
		{"of a block to which no way leads", []api.Block{block(jump(1), num(0, 1)), block(ret(-1), phi(1, 0, 0)), block(jump(1))}, []int{1, 0}},
		{"of what is made in a block to which no way leads", []api.Block{block(jump(1), num(0, 1)), block(ret(-1), phi(1, 0, 2)), block(jump(1), num(2, 1))}, []int{2, 0}},
		{"none of a block without ways", []api.Block{block(ret(-1)), block(ret(-1), phi(0))}, []int{1, 0}},
		{"with the ways in order", []api.Block{block(fork(0, 3, 1), num(0, 1)), block(jump(3), num(1, 1)), block(jump(3), num(2, 1)), block(fork(0, 2, 4), phi(3, 0, 1, 2)), block(ret(-1))}, nil},
		{"with the ways in another order", []api.Block{block(fork(0, 3, 1), num(0, 1)), block(jump(3), num(1, 1)), block(jump(3), num(2, 1)), block(fork(0, 2, 4), phi(3, 1, 0, 2)), block(ret(-1))}, []int{3, 0}},
	})
}

// 4: it makes a virtual that an instruction at an earlier place makes.
func TestMadeTwice(t *testing.T) {
	var l []oneCase
	for _, i := range []api.Ins{num(0, 1), input(0), field(0, vStruct, 0), load(0, vArray, 1), again(0, 1), two(api.OpAdd, 0, 1, 1), two(api.OpOr, 0, 1, 1), one(api.OpNot, 0, 1), one(api.OpNeg, 0, 1), call(0, 1, 1, 1)} {
		l = append(l, oneCase{"again", []api.Block{block(jump(1), num(0, 1)), block(ret(-1), num(1, 1), i)}, []int{1, 1}})
		l = append(l, oneCase{"first", []api.Block{block(jump(1), num(1, 1), i), block(ret(-1), num(0, 1))}, []int{1, 0}})
	}
	for _, i := range []api.Ins{put(0), mark(0), zero(vArray), store(vArray, 0, 0), setField(vStruct, 0, 0), bind(vInt, 0), call(-1, 1, 0, 0)} {
		i := i
		if i.Op != api.InsCall {
			i.Dst = 0
		}
		l = append(l, oneCase{"of what makes none", []api.Block{block(ret(-1), num(0, 1), i)}, nil})
	}
	l = append(l, []oneCase{
		{"Call of nothing that is kept, twice", []api.Block{block(ret(-1), num(0, 1), call(-1, 1, 0, 0), call(-1, 1, 0, 0))}, nil},
		{"on both sides", []api.Block{block(fork(0, 1, 2), num(0, 1)), block(ret(-1), num(1, 1)), block(ret(-1), num(1, 1))}, []int{2, 0}},
		{"a Phi, and another one", []api.Block{block(jump(1), num(0, 1)), block(ret(-1), phi(1, 0), phi(1, 0))}, []int{1, 1}},
		{"a Phi of what is made ahead", []api.Block{block(jump(1), num(0, 1)), block(ret(-1), phi(0, 0))}, []int{1, 0}},
		{"three times", []api.Block{block(ret(-1), num(0, 1), num(1, 1), num(1, 1), num(0, 1), num(0, 1))}, []int{0, 2}},
		{"in a loop", []api.Block{block(jump(1)), block(jump(1), num(0, 1))}, nil},
	}...)
	hold(t, l)
}

// 5: it is a Mark of a point of which one stands ahead.
func TestMarks(t *testing.T) {
	hold(t, []oneCase{
		{"twice", []api.Block{block(ret(-1), mark(2), mark(2))}, []int{0, 1}},
		{"on both sides", []api.Block{block(fork(0, 1, 2), num(0, 1)), block(ret(-1), mark(1), mark(0)), block(ret(-1), mark(3), mark(1))}, []int{2, 1}},
		{"each once, in any order", []api.Block{block(jump(1), mark(3), mark(0)), block(ret(-1), mark(2), mark(1))}, nil},
		{"in a loop", []api.Block{block(jump(0), mark(3))}, nil},
	})
}

// Of several places the first one is told, of functions in their order.
func TestFirst(t *testing.T) {
	wrongOnes := []api.Ins{get(5, vInt), put(6), num(0, 1), mark(0)}
	for _, one := range wrongOnes {
		for _, other := range wrongOnes {
			l := []api.Ins{num(0, 1), mark(0), put(0), one, put(0), other}
			answers(t, inMain(block(ret(7), l...), block(jump(0))), answer{0, 0, 3, api.ErrWrong})
			u := inMain(block(ret(0), num(0, 1)))
			u.Funcs[1].Blocks = []api.Block{block(jump(1), num(0, 1), mark(4)), block(ret(7), one, other)}
			if one.Op == api.InsMark {
				u.Funcs[1].Blocks[1].Ins[0].Num = 4
			}
			if other.Op == api.InsMark {
				u.Funcs[1].Blocks[1].Ins[1].Num = 4
			}
			answers(t, u, answer{1, 1, 0, api.ErrWrong})
			u.Main = 1 // where main stands turns nothing
			u.Funcs[1].Params = 0
			u.Funcs[1].Blocks[0].Ins = u.Funcs[1].Blocks[0].Ins[:2]
			answers(t, u, answer{1, 1, 0, api.ErrWrong})
			u.Funcs[0].Blocks = []api.Block{block(ret(3), num(0, 1))}
			answers(t, u, answer{0, 0, 1, api.ErrWrong})
		}
	}
}

// Each function has virtuals and points of its own.
func TestOfEachFunction(t *testing.T) {
	u := inMain(block(ret(-1), num(0, 1), mark(1)))
	u.Funcs[1].Blocks = []api.Block{block(jump(1), arg(0, 0), arg(1, 1), mark(5)), block(ret(0), put(1))}
	answers(t, u, answer{})
	u.Funcs[0].Blocks = []api.Block{block(ret(-1), num(1, 1), num(0, 1), mark(1), put(1))}
	u.Funcs[1].Blocks = []api.Block{block(ret(-1), arg(0, 0), put(1))}
	answers(t, u, answer{1, 0, 1, api.ErrWrong})
}
