package fold_test

import (
	"strconv"

	"theodolite/api"
)

// What units say: they are gone through as chapter 14 has it, and their traces told as texts.

// walk is what one has told so far: M a Mark with its point and what is known there, O what is printed, C a call, B the way back from it, H, D, X, I and F the ends.
type walk struct {
	u      api.Unit
	in     []int64
	fuel   int
	blocks int // that were gone through behind the last event
	events int
	calls  int // under way
	text   []byte
}

// ended is thrown at the end.
type ended struct{}

// traceOf is a unit's trace.
func traceOf(u api.Unit, r run) string {
	w := &walk{u: u, in: r.in, fuel: r.fuel}
	func() {
		defer func() {
			if thrown := recover(); thrown != nil {
				_ = thrown.(ended)
			}
		}()
		w.call(u.Main, nil)
		w.end("H")
	}()
	return string(w.text)
}

func (w *walk) say(event string, numbers ...int64) {
	w.blocks = 0
	w.events++
	if w.events > mostEvents {
		panic(ended{})
	}
	if len(w.text) > 0 {
		w.text = append(w.text, ' ')
	}
	w.text = append(w.text, event...)
	for _, n := range numbers {
		w.text = strconv.AppendInt(w.text, n, 10)
	}
}

func (w *walk) end(event string) {
	w.say(event)
	panic(ended{})
}

// mostEvents are told of a trace, as some have no end; mostBlocks are gone through between two of them, and mostCalls are under way. (They are as many in both units.)
const (
	mostEvents = 2000
	mostBlocks = 400
	mostCalls  = 50
)

// block holds a walk that goes on without any event.
func (w *walk) block() {
	w.blocks++
	if w.blocks > mostBlocks {
		w.end("and so on")
	}
}

// frame is a function that is under way: its virtuals, the words of its variables, what is known of each, its arguments.
type frame struct {
	virtuals []int64
	words    [][]int64
	known    []int64
	gone     []bool
	args     []int64
}

func (w *walk) call(n int, args []int64) int64 {
	f := &w.u.Funcs[n]
	g := &frame{virtuals: make([]int64, f.Size), known: make([]int64, len(f.Vars)), args: args}
	for _, v := range f.Vars {
		g.words = append(g.words, make([]int64, v.Words))
		g.gone = append(g.gone, true)
	}
	into := waysInto(f)
	for at, from := 0, (way{-1, 0}); ; {
		w.block()
		b := &f.Blocks[at]
		w.phis(b, g, into[at], from)
		for i := range b.Ins {
			w.ins(&b.Ins[i], g)
		}
		from = way{at, 0}
		switch t := b.Term; {
		case t.Kind == api.TermJump, t.Kind == api.TermIf && g.virtuals[t.A] != 0:
			at = t.To
		case t.Kind == api.TermIf:
			at = t.Else
			if t.To == t.Else {
				from.behind = 1
			}
		case t.A >= 0:
			return g.virtuals[t.A]
		default:
			return 0
		}
	}
}

// way is the block that it was come from; behind is how many ways from it stand ahead of the one that was taken.
type way struct{ from, behind int }

// phis makes a block's Phis, all at once.
func (w *walk) phis(b *api.Block, g *frame, into []int, from way) {
	place := 0
	for n, x := range into {
		if x == from.from {
			place = n + from.behind
			break
		}
	}
	var come []int64
	for i := 0; i < len(b.Ins) && b.Ins[i].Op == api.InsPhi; i++ {
		come = append(come, g.virtuals[b.Ins[i].Args[place]])
	}
	for i, n := range come {
		g.virtuals[b.Ins[i].Dst] = n
	}
}

func (w *walk) ins(i *api.Ins, g *frame) {
	get := func(n int) int64 { return g.virtuals[n] }
	give := func(n int64) { g.virtuals[i.Dst] = n }
	switch i.Op {
	case api.InsPhi:
	case api.InsConst:
		give(i.Num)
	case api.InsArg:
		give(g.args[i.Num])
	case api.InsCopy:
		give(get(i.A))
	case api.InsLoad:
		give(*w.word(g.words[i.Var], get(i.A)))
	case api.InsStore:
		*w.word(g.words[i.Var], get(i.A)) = get(i.B)
	case api.InsField:
		give(g.words[i.Var][i.Num])
	case api.InsSetF:
		g.words[i.Var][i.Num] = get(i.A)
	case api.InsZero:
		clear(g.words[i.Var])
	case api.InsCall:
		w.callOf(i, g)
	case api.InsInput:
		give(w.input())
	case api.InsPrint:
		w.say("O", get(i.A))
	case api.InsMark:
		w.markOf(int(i.Num), g)
	case api.InsBind:
		if g.gone[i.Var] = i.A < 0; !g.gone[i.Var] {
			g.known[i.Var] = get(i.A)
		}
	case api.OpNot:
		give(1 - get(i.A))
	case api.OpNeg:
		give(-get(i.A))
	default:
		give(w.reckon(i.Op, get(i.A), get(i.B)))
	}
}

// word is a word of a variable.
func (w *walk) word(words []int64, at int64) *int64 {
	if at < 0 || at >= int64(len(words)) {
		w.end("X")
	}
	return &words[at]
}

// input is the next one.
func (w *walk) input() int64 {
	if len(w.in) == 0 {
		w.end("I")
	}
	n := w.in[0]
	w.in = w.in[1:]
	return n
}

func (w *walk) callOf(i *api.Ins, g *frame) {
	var args []int64
	for _, a := range i.Args {
		args = append(args, g.virtuals[a])
	}
	w.say("C", i.Num)
	if w.calls++; w.calls > mostCalls {
		w.end("and so on")
	}
	n := w.call(int(i.Num), args)
	w.calls--
	w.say("B")
	if i.Dst >= 0 {
		g.virtuals[i.Dst] = n
	}
}

func (w *walk) markOf(point int, g *frame) {
	if w.fuel <= 0 {
		w.end("F")
	}
	w.fuel--
	w.say("M", int64(point))
	p := w.u.Points[point]
	for _, v := range p.Scope {
		if k := w.u.Funcs[p.Func].Vars[v].Type.Kind; k != api.TyInt && k != api.TyBool {
			continue
		}
		w.text = append(w.text, ',')
		w.text = strconv.AppendInt(w.text, int64(v), 10)
		w.text = append(w.text, '=')
		if g.gone[v] {
			w.text = append(w.text, "gone"...)
			continue
		}
		w.text = strconv.AppendInt(w.text, g.known[v], 10)
	}
}

// reckon is what an operation of two sides comes to.
func (w *walk) reckon(op uint8, x, y int64) int64 {
	is := func(b bool) int64 {
		if b {
			return 1
		}
		return 0
	}
	switch op {
	case api.OpAdd:
		return x + y
	case api.OpSub:
		return x - y
	case api.OpMul:
		return x * y
	case api.OpDiv, api.OpRem:
		if y == 0 {
			w.end("D")
		}
		if op == api.OpDiv {
			return x / y
		}
		return x % y
	case api.OpEq:
		return is(x == y)
	case api.OpNe:
		return is(x != y)
	case api.OpLt:
		return is(x < y)
	case api.OpLe:
		return is(x <= y)
	case api.OpGt:
		return is(x > y)
	case api.OpGe:
		return is(x >= y)
	case api.OpAnd:
		return x & y
	}
	return x | y
}
