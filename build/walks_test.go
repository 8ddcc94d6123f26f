package build_test

import (
	"strconv"

	"theodolite/api"
)

// What trees and units say: both are gone through as chapters 13 and 14 have it, and their traces told as texts.

// said is what a walk has told so far: M a Mark with its point and what is known there, O what is printed, C a call, B the way back from it, H, D, X, I and F the ends.
type said struct {
	in    []int64
	fuel  int
	steps int
	text  []byte
}

// ended is thrown at the end.
type ended struct{}

// trace is what a walk of main tells.
func trace(s *said, main func()) string {
	func() {
		defer func() {
			if thrown := recover(); thrown != nil {
				_ = thrown.(ended)
			}
		}()
		main()
		s.end("H")
	}()
	return string(s.text)
}

func (s *said) say(event string, numbers ...int64) {
	if len(s.text) > 0 {
		s.text = append(s.text, ' ')
	}
	s.text = append(s.text, event...)
	for _, n := range numbers {
		s.text = strconv.AppendInt(s.text, n, 10)
	}
}

func (s *said) end(event string) {
	s.say(event)
	panic(ended{})
}

// mark tells a Mark, whose known scalars are told behind it.
func (s *said) mark(point int) {
	if s.fuel <= 0 {
		s.end("F")
	}
	s.fuel--
	s.say("M", int64(point))
}

// known tells of a scalar at a Mark.
func (s *said) known(v int, n int64, gone bool) {
	s.text = append(s.text, ',')
	s.text = strconv.AppendInt(s.text, int64(v), 10)
	s.text = append(s.text, '=')
	if gone {
		s.text = append(s.text, "gone"...)
		return
	}
	s.text = strconv.AppendInt(s.text, n, 10)
}

// input is the next one.
func (s *said) input() int64 {
	if len(s.in) == 0 {
		s.end("I")
	}
	n := s.in[0]
	s.in = s.in[1:]
	return n
}

// word is a word of a variable.
func (s *said) word(words []int64, at int64) *int64 {
	if at < 0 || at >= int64(len(words)) {
		s.end("X")
	}
	return &words[at]
}

// reckon is what an operation comes to.
func (s *said) reckon(op uint8, x, y int64) int64 {
	is := func(b bool) int64 {
		if b {
			return 1
		}
		return 0
	}
	switch op {
	case api.OpAdd:
		return x + y
	case api.OpSub:
		return x - y
	case api.OpMul:
		return x * y
	case api.OpDiv, api.OpRem:
		if y == 0 {
			s.end("D")
		}
		if op == api.OpDiv {
			return x / y
		}
		return x % y
	case api.OpEq:
		return is(x == y)
	case api.OpNe:
		return is(x != y)
	case api.OpLt:
		return is(x < y)
	case api.OpLe:
		return is(x <= y)
	case api.OpGt:
		return is(x > y)
	case api.OpGe:
		return is(x >= y)
	case api.OpAnd:
		return x & y
	case api.OpOr:
		return x | y
	case api.OpNot:
		return 1 - x
	}
	return -x
}

func isScalar(v api.Var) bool { return v.Type.Kind == api.TyInt || v.Type.Kind == api.TyBool }

// wordsOf are a function's variables at its beginning.
func wordsOf(vars []api.Var) (l [][]int64) {
	for _, v := range vars {
		l = append(l, make([]int64, v.Words))
	}
	return l
}

// Trees

type treeWalk struct {
	said
	x api.Tree
}

// treeFrame is a function that is under way: the words of its variables.
type treeFrame [][]int64

func traceOfTree(x api.Tree, r run) string {
	w := &treeWalk{said: said{in: r.in, fuel: r.fuel}, x: x}
	return trace(&w.said, func() { w.call(x.Main, nil) })
}

func (w *treeWalk) mark(point int, f treeFrame) {
	w.said.mark(point)
	p := w.x.Points[point]
	for _, v := range p.Scope {
		if isScalar(w.x.Bodies[p.Func].Vars[v]) {
			w.known(v, f[v][0], false)
		}
	}
}

func (w *treeWalk) call(n int, args []int64) int64 {
	b := w.x.Bodies[n]
	f := treeFrame(wordsOf(b.Vars))
	for i := range b.Params {
		f[i][0] = args[i]
	}
	back, _ := w.list(b.Acts, f)
	return back
}

// list does a list, and tells whether the function ended in it.
func (w *treeWalk) list(l []api.Act, f treeFrame) (back int64, is bool) {
	for i := range l {
		if back, is = w.act(&l[i], f); is {
			return back, true
		}
	}
	return 0, false
}

func (w *treeWalk) act(a *api.Act, f treeFrame) (back int64, is bool) {
	w.mark(a.Point, f)
	kid := func(i int) int64 { return w.value(&a.Kids[i], f) }
	switch a.Kind {
	case api.StVar:
		clear(f[a.Var])
		if len(a.Kids) > 0 {
			f[a.Var][0] = kid(0)
		}
	case api.StSet:
		f[a.Var][0] = kid(0)
	case api.StElem:
		at, n := kid(0), kid(1)
		*w.word(f[a.Var], at) = n
	case api.StField:
		f[a.Var][a.Field] = kid(0)
	case api.StCall:
		var args []int64
		for i := range a.Kids {
			args = append(args, kid(i))
		}
		w.say("C", int64(a.Call))
		n := w.call(a.Call, args)
		w.say("B")
		if a.Var >= 0 {
			f[a.Var][0] = n
		}
	case api.StIf:
		if kid(0) != 0 {
			return w.list(a.Body, f)
		}
		return w.list(a.Else, f)
	case api.StFor:
		for kid(0) != 0 {
			if back, is = w.list(a.Body, f); is {
				return back, true
			}
			w.mark(a.Point, f)
		}
	case api.StPrint:
		w.say("O", kid(0))
	case api.StInput:
		f[a.Var][0] = w.input()
	case api.StReturn:
		if len(a.Kids) > 0 {
			return kid(0), true
		}
		return 0, true
	}
	return 0, false
}

func (w *treeWalk) value(v *api.Val, f treeFrame) int64 {
	switch v.Kind {
	case api.ValNum:
		return v.Num
	case api.ValVar:
		return f[v.Var][0]
	case api.ValElem:
		return *w.word(f[v.Var], w.value(&v.Kids[0], f))
	case api.ValField:
		return f[v.Var][v.Num]
	case api.ValUn:
		return w.reckon(v.Op, w.value(&v.Kids[0], f), 0)
	}
	x := w.value(&v.Kids[0], f)
	return w.reckon(v.Op, x, w.value(&v.Kids[1], f))
}

// Units that may be, without Phis, Binds and Copies

type unitWalk struct {
	said
	u api.Unit
}

// unitFrame is a function that is under way: its virtuals, the words of its variables, and what is known of each.
type unitFrame struct {
	virtuals []int64
	words    [][]int64
	known    []int64
	gone     []bool
	args     []int64
}

// mostSteps is more than any walk here has, if it ends.
const mostSteps = 1 << 23

func traceOfUnit(u api.Unit, r run) string {
	w := &unitWalk{said: said{in: r.in, fuel: r.fuel}, u: u}
	return trace(&w.said, func() { w.call(u.Main, nil) })
}

func (w *unitWalk) call(n int, args []int64) int64 {
	f := &w.u.Funcs[n]
	g := &unitFrame{virtuals: make([]int64, f.Size), words: wordsOf(f.Vars), known: make([]int64, len(f.Vars)), args: args}
	for range f.Vars {
		g.gone = append(g.gone, true)
	}
	at := 0
	for {
		b := &f.Blocks[at]
		for i := range b.Ins {
			w.step()
			w.ins(&b.Ins[i], g)
		}
		w.step()
		switch t := b.Term; {
		case t.Kind == api.TermJump, t.Kind == api.TermIf && g.virtuals[t.A] != 0:
			at = t.To
		case t.Kind == api.TermIf:
			at = t.Else
		case t.A >= 0:
			return g.virtuals[t.A]
		default:
			return 0
		}
	}
}

// step holds a walk that does not end.
func (w *unitWalk) step() {
	w.steps++
	if w.steps > mostSteps {
		w.end("endless")
	}
}

func (w *unitWalk) ins(i *api.Ins, g *unitFrame) {
	get := func(n int) int64 { return g.virtuals[n] }
	give := func(n int64) { g.virtuals[i.Dst] = n }
	switch i.Op {
	case api.InsConst:
		give(i.Num)
	case api.InsArg:
		give(g.args[i.Num])
	case api.InsGet:
		give(g.words[i.Var][0])
	case api.InsSet:
		g.words[i.Var][0] = get(i.A)
		g.known[i.Var], g.gone[i.Var] = get(i.A), false
	case api.InsLoad:
		give(*w.word(g.words[i.Var], get(i.A)))
	case api.InsStore:
		*w.word(g.words[i.Var], get(i.A)) = get(i.B)
	case api.InsField:
		give(g.words[i.Var][i.Num])
	case api.InsSetF:
		g.words[i.Var][i.Num] = get(i.A)
	case api.InsZero:
		clear(g.words[i.Var])
	case api.InsCall:
		w.callOf(i, g)
	case api.InsInput:
		give(w.input())
	case api.InsPrint:
		w.say("O", get(i.A))
	case api.InsMark:
		w.markOf(int(i.Num), g)
	case api.OpNot, api.OpNeg:
		give(w.reckon(i.Op, get(i.A), 0))
	default:
		give(w.reckon(i.Op, get(i.A), get(i.B)))
	}
}

func (w *unitWalk) callOf(i *api.Ins, g *unitFrame) {
	var args []int64
	for _, a := range i.Args {
		args = append(args, g.virtuals[a])
	}
	w.say("C", i.Num)
	n := w.call(int(i.Num), args)
	w.say("B")
	if i.Dst >= 0 {
		g.virtuals[i.Dst] = n
	}
}

func (w *unitWalk) markOf(point int, g *unitFrame) {
	w.mark(point)
	p := w.u.Points[point]
	for _, v := range p.Scope {
		if isScalar(w.u.Funcs[p.Func].Vars[v]) {
			w.known(v, g.known[v], g.gone[v])
		}
	}
}

// goals are the blocks to which an end goes.
func goals(t api.Term) []int {
	switch t.Kind {
	case api.TermJump:
		return []int{t.To}
	case api.TermIf:
		return []int{t.To, t.Else}
	}
	return nil
}
