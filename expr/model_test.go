package expr_test

import (
	"bytes"
	"math"
	"math/big"
	"slices"
	"testing"

	"theodolite/api"
	"theodolite/expr"
	"theodolite/leb"
)

const (
	mostSteps   = 16
	mostNumbers = 8
)

// The chapter's words once more: numbers have no bounds here, till a step has been done.

func hasNumber(kind uint8) bool {
	return kind == api.LocNum || kind == api.LocReg || kind == api.LocBase
}

// isRight tells whether steps are a right location, each rule on its own.
func isRight(l []api.Loc) bool {
	wrong := slices.ContainsFunc(l, func(x api.Loc) bool {
		switch x.Kind {
		case api.LocNum, api.LocBase:
			return false
		case api.LocReg:
			return x.N < 0 || x.N > 15
		case api.LocWord, api.LocAdd, api.LocNeg:
			return x.N != 0
		}
		return true
	})
	there, short, many := 0, false, false
	for _, x := range l {
		switch x.Kind {
		case api.LocWord, api.LocNeg:
			short = short || there < 1
		case api.LocAdd:
			short = short || there < 2
			there--
		default:
			there++
		}
		many = many || there > mostNumbers
	}
	return len(l) <= mostSteps && !wrong && !short && !many && (len(l) == 0 || there == 1)
}

// own is the bytes of a right location.
func own(l []api.Loc) string {
	b := leb.PutU(nil, uint64(len(l)))
	for _, x := range l {
		b = append(b, x.Kind)
		if hasNumber(x.Kind) {
			b = append(b, leb.PutS(nil, x.N)...)
		}
	}
	return string(b)
}

// said is the right location whose bytes stand at the beginning of b, and how many they are; false, if there is none.
func said(b []byte) (l []api.Loc, size int, is bool) {
	many, size, e := leb.U(b, 0)
	if e != api.OK || many > mostSteps {
		return nil, 0, false
	}
	for range many {
		if size == len(b) {
			return nil, 0, false
		}
		x := api.Loc{Kind: b[size]}
		size++
		if hasNumber(x.Kind) {
			n, next, e := leb.S(b, size)
			if e != api.OK {
				return nil, 0, false
			}
			x.N, size = n, next
		}
		l = append(l, x)
	}
	if !isRight(l) {
		return nil, 0, false
	}
	return l, size, true
}

// round is what a number comes to in 64 bits.
func round(x *big.Int) *big.Int {
	all := new(big.Int).Lsh(big.NewInt(1), 64)
	x = new(big.Int).Mod(x, all)
	if x.Cmp(big.NewInt(math.MaxInt64)) > 0 {
		x.Sub(x, all)
	}
	return x
}

// inReg is what is in a register of a view; false, if it is not known.
func inReg(v api.View, k int64) (n int64, is bool) {
	known := append(slices.Clone(v.Known), make([]bool, api.Regs)...)
	regs := append(slices.Clone(v.Regs), make([]int64, api.Regs)...)
	return regs[k], known[k]
}

// comes is what a location comes to.
func comes(l []api.Loc, v api.View) (int64, api.Errno) {
	if !isRight(l) {
		return 0, api.ErrArg
	}
	var stack []*big.Int
	pop := func() *big.Int {
		x := stack[len(stack)-1]
		stack = stack[:len(stack)-1]
		return x
	}
	push := func(x *big.Int) { stack = append(stack, round(x)) }
	for _, x := range l {
		switch x.Kind {
		case api.LocNum:
			push(big.NewInt(x.N))
		case api.LocReg:
			n, is := inReg(v, x.N)
			if !is {
				return 0, api.ErrNone
			}
			push(big.NewInt(n))
		case api.LocBase:
			push(new(big.Int).Add(big.NewInt(v.Base), big.NewInt(x.N)))
		case api.LocWord:
			at := pop()
			if at.Sign() < 0 || at.Cmp(big.NewInt(int64(len(v.Words)))) >= 0 {
				return 0, api.ErrNone
			}
			push(big.NewInt(v.Words[at.Int64()]))
		case api.LocAdd:
			push(new(big.Int).Add(pop(), pop()))
		case api.LocNeg:
			push(new(big.Int).Neg(pop()))
		}
	}
	if len(stack) == 0 {
		return 0, api.ErrNone
	}
	return pop().Int64(), api.OK
}

// What is asked of the calls.

// isLocation: the steps are right, have just these bytes, and come out of them, whatever stands ahead and behind.
func isLocation(t *testing.T, l []api.Loc, want string) {
	t.Helper()
	if !expr.Right(l) {
		t.Errorf("%v is not right", few(l))
	}
	for _, ahead := range []string{"", "\x00", "\xff\x80", "\x01\x02"} {
		if b, e := expr.Put([]byte(ahead), l); string(b) != ahead+want || e != api.OK {
			t.Errorf("Put(%x, %v): %x, error %d, not %x", ahead, few(l), b, e, ahead+want)
		}
		for _, behind := range []string{"", "\x00", "\x04", "\x7f", "\x80", "\xff"} {
			isGot(t, ahead+want+behind, len(ahead), l, len(ahead+want))
		}
	}
}

func isWrong(t *testing.T, l []api.Loc) {
	t.Helper()
	if expr.Right(l) {
		t.Errorf("%v is right", few(l))
	}
	for _, ahead := range []string{"", "\x07\x08"} {
		if b, e := expr.Put([]byte(ahead), l); len(b) != 0 || e != api.ErrArg {
			t.Errorf("Put(%x, %v): %x, error %d, not error %d", ahead, few(l), b, e, api.ErrArg)
		}
	}
	for _, v := range []api.View{{}, wide()} {
		isRefused(t, l, v, api.ErrArg)
	}
}

// isRightAsTheWordsSay: right, and put, or not, as the model has it.
func isRightAsTheWordsSay(t *testing.T, l []api.Loc) {
	t.Helper()
	if isRight(l) {
		isLocation(t, l, own(l))
	} else {
		isWrong(t, l)
	}
}

func isGot(t *testing.T, b string, at int, want []api.Loc, behind int) {
	t.Helper()
	if l, next, e := expr.Get([]byte(b), at); !slices.Equal(l, want) || next != behind || e != api.OK {
		t.Errorf("Get(%x, %d): %v, %d, error %d, not %v, %d", b, at, l, next, e, want, behind)
	}
}

func isNotGot(t *testing.T, b string, at int, want api.Errno) {
	t.Helper()
	if l, next, e := expr.Get([]byte(b), at); len(l) != 0 || next != 0 || e != want {
		t.Errorf("Get(%x, %d): %v, %d, error %d, not error %d", b, at, l, next, e, want)
	}
}

// isGotAsTheWordsSay: at each place of b, and around it, as the model has it; what is got is put as it stood there.
func isGotAsTheWordsSay(t *testing.T, b string) {
	t.Helper()
	for at := -1; at <= len(b)+1; at++ {
		if at < 0 || at > len(b) {
			isNotGot(t, b, at, api.ErrArg)
			continue
		}
		l, size, is := said([]byte(b[at:]))
		if !is {
			isNotGot(t, b, at, api.ErrForm)
			continue
		}
		isGot(t, b, at, l, at+size)
		if again, e := expr.Put(nil, l); string(again) != b[at:at+size] || e != api.OK || !expr.Right(l) {
			t.Errorf("Get(%x, %d): %v, which is put as %x, error %d", b, at, l, again, e)
		}
	}
}

func isNumber(t *testing.T, l []api.Loc, v api.View, want int64) {
	t.Helper()
	if n, e := expr.Eval(l, v); n != want || e != api.OK {
		t.Errorf("Eval(%v, %v): %d, error %d, not %d", few(l), v, n, e, want)
	}
}

func isRefused(t *testing.T, l []api.Loc, v api.View, want api.Errno) {
	t.Helper()
	if n, e := expr.Eval(l, v); n != 0 || e != want {
		t.Errorf("Eval(%v, %v): %d, error %d, not error %d", few(l), v, n, e, want)
	}
}

func isAsTheWordsSay(t *testing.T, l []api.Loc, v api.View) {
	t.Helper()
	want, e := comes(l, v)
	if e != api.OK {
		isRefused(t, l, v, e)
	} else {
		isNumber(t, l, v, want)
	}
}

func few(l []api.Loc) []api.Loc { return l[:min(len(l), 20)] }

// Steps, and lists of them.

func num(n int64) api.Loc  { return api.Loc{Kind: api.LocNum, N: n} }
func reg(n int64) api.Loc  { return api.Loc{Kind: api.LocReg, N: n} }
func base(n int64) api.Loc { return api.Loc{Kind: api.LocBase, N: n} }
func word() api.Loc        { return api.Loc{Kind: api.LocWord} }
func add() api.Loc         { return api.Loc{Kind: api.LocAdd} }
func neg() api.Loc         { return api.Loc{Kind: api.LocNeg} }

func row(l ...api.Loc) []api.Loc { return l }

// times is a step, so many times.
func times(x api.Loc, many int) []api.Loc { return slices.Repeat(row(x), many) }

// Views.

// chapters is the view of the chapter's examples.
func chapters() api.View {
	return api.View{Known: []bool{2: true}, Regs: []int64{1, 2, 5}, Base: 9, Words: []int64{10, 11, 12, 13, 14, 15, 16, 17, 18, 19}}
}

// wide is a view of which all registers are known: k is 100 + k in it; the words are 1000 and more.
func wide() api.View {
	v := api.View{Base: 7}
	for k := range api.Regs {
		v.Known = append(v.Known, true)
		v.Regs = append(v.Regs, int64(100+k))
		v.Words = append(v.Words, int64(1000+k))
	}
	return v
}

// What looks thrown, and is the same each time.

// dice answers numbers below n.
func dice(seed uint64) func(n int) int {
	return func(n int) int {
		seed = seed*6364136223846793005 + 1442695040888963407
		return int(seed >> 33 % uint64(n))
	}
}

// thrownNumber is near to 0, or to where something turns.
func thrownNumber(next func(n int) int) int64 {
	ends := []int64{0, 15, 16, 63, -64, 64, 128, 1 << 13, 1 << 32, -1 << 32, math.MaxInt64, math.MinInt64}
	return ends[next(len(ends))] + int64(next(7)-3)
}

// thrown is a right location of so many steps at most.
func thrown(next func(n int) int, size int) []api.Loc {
	var l []api.Loc
	there := 0
	for range size {
		kind := uint8(1 + next(6))
		if kind == api.LocAdd && there < 2 || there == 0 {
			kind = uint8(1 + next(3))
		}
		if hasNumber(kind) && there == mostNumbers {
			kind = api.LocAdd
		}
		x := api.Loc{Kind: kind}
		switch {
		case kind == api.LocReg:
			x.N = int64(next(api.Regs))
		case hasNumber(kind):
			x.N = thrownNumber(next)
		}
		switch {
		case hasNumber(kind):
			there++
		case kind == api.LocAdd:
			there--
		}
		l = append(l, x)
	}
	// Of what lies there in the end too much is laid together; what has no room for that goes.
	for ; there > 1; there-- {
		l = append(l, add())
	}
	for len(l) > mostSteps || !isRight(l) {
		l = l[:len(l)-1]
	}
	return l
}

// thrownView has lists of any length, up to somewhat more than there are registers.
func thrownView(next func(n int) int) api.View {
	v := api.View{Base: thrownNumber(next)}
	for range next(20) {
		v.Known = append(v.Known, next(5) > 0)
	}
	for range next(20) {
		v.Regs = append(v.Regs, thrownNumber(next))
	}
	for range next(80) {
		v.Words = append(v.Words, thrownNumber(next))
	}
	return v
}

// overwrite fills a list, and the room behind its end.
func overwrite[T any](l []T, x T) {
	l = l[:cap(l)]
	for i := range l {
		l[i] = x
	}
}

func same(a, b api.View) bool {
	return slices.Equal(a.Known, b.Known) && slices.Equal(a.Regs, b.Regs) && a.Base == b.Base && slices.Equal(a.Words, b.Words)
}

func clone(v api.View) api.View {
	return api.View{Known: slices.Clone(v.Known), Regs: slices.Clone(v.Regs), Base: v.Base, Words: slices.Clone(v.Words)}
}

// The model itself is held against the chapter's table.
func TestTheModelSaysWhatTheChapterSays(t *testing.T) {
	for _, c := range examples() {
		if isRight(c.l) != c.right || c.right && own(c.l) != c.b {
			t.Errorf("%v: right: %v, bytes %x", c.l, isRight(c.l), own(c.l))
		}
		if n, e := comes(c.l, chapters()); n != c.n || e != c.e {
			t.Errorf("%v: %d, error %d", c.l, n, e)
		}
		if l, size, is := said(append([]byte(c.b), 0xff)); c.right && (!slices.Equal(l, c.l) || size != len(c.b) || !is) {
			t.Errorf("%x: %v, %d, %v", c.b, l, size, is)
		}
	}
	if !bytes.Equal([]byte(own(row(base(-3), word()))), []byte{2, 3, 0x7d, 4}) {
		t.Errorf("own: %x", own(row(base(-3), word())))
	}
}
