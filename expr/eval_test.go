package expr_test

import (
	"math"
	"slices"
	"testing"

	"theodolite/api"
	"theodolite/expr"
)

// P6.3

func TestEachKindOfStep(t *testing.T) {
	v := wide()
	for _, c := range []struct {
		l    []api.Loc
		want int64
	}{
		{row(num(0)), 0}, {row(num(7)), 7}, {row(num(-7)), -7}, {row(num(math.MaxInt64)), math.MaxInt64}, {row(num(math.MinInt64)), math.MinInt64},
		{row(base(0)), 7}, {row(base(3)), 10}, {row(base(-8)), -1}, {row(base(1 << 40)), 1<<40 + 7},
		{row(num(0), word()), 1000}, {row(num(15), word()), 1015}, {row(base(-2), word()), 1005},
		{row(num(7), neg()), -7}, {row(num(-7), neg()), 7}, {row(num(0), neg()), 0}, {row(num(7), neg(), neg()), 7},
		{row(num(7), num(5), add()), 12}, {row(num(-7), num(5), add()), -2}, {row(reg(1), reg(2), add()), 203},
		{row(num(1), num(20), num(300), add(), neg(), add()), -319}, {row(num(1), num(20), neg(), num(300), add(), add()), 281},
		{row(reg(15), num(110), neg(), add(), word()), 1005},
		{row(num(2), word(), num(999), neg(), add(), word()), 1003},
		{slices.Concat(row(num(1), num(2), num(4), num(8), num(16), num(32), num(64), num(128)), times(add(), 7)), 255},
		{slices.Concat(row(num(1), num(2), num(4), num(8), num(16), num(32), num(64), num(128)), row(neg()), times(add(), 7)), -1},
		{append(row(num(3)), times(neg(), 15)...), -3},
	} {
		isNumber(t, c.l, v, c.want)
		isAsTheWordsSay(t, c.l, v)
	}
	for k := range int64(api.Regs) {
		isNumber(t, row(reg(k)), v, 100+k)
	}
}

func TestNumbersThatGoRound(t *testing.T) {
	const least, most = math.MinInt64, math.MaxInt64
	for _, c := range []struct {
		l          []api.Loc
		base, want int64
	}{
		{row(num(most), num(1), add()), 0, least},
		{row(num(1), num(most), add()), 0, least},
		{row(num(least), num(-1), add()), 0, most},
		{row(num(most), num(most), add()), 0, -2},
		{row(num(least), num(least), add()), 0, 0},
		{row(num(least), neg()), 0, least},
		{row(num(most), neg()), 0, least + 1},
		{row(num(least+1), neg()), 0, most},
		{row(num(least), neg(), num(least), add()), 0, 0},
		{row(base(1)), most, least},
		{row(base(-1)), least, most},
		{row(base(most)), most, -2},
		{row(base(least)), least, 0},
		{row(base(most)), 1, least},
		{row(base(least)), most, -1},
		{row(num(most), num(most), add(), num(3), add(), word()), 0, 51}, // round, and at a word again
		{row(base(least), num(least), add(), word()), 2, 52},
	} {
		v := api.View{Base: c.base, Words: []int64{50, 51, 52}}
		isNumber(t, c.l, v, c.want)
		isAsTheWordsSay(t, c.l, v)
	}
}

func TestRegistersThatAreNotKnown(t *testing.T) {
	for k := range int64(api.Regs) {
		v := wide()
		v.Known[k] = false
		for other := range int64(api.Regs) {
			for _, l := range [][]api.Loc{row(reg(other)), row(num(1), reg(other), add(), num(-1), add())} {
				if other == k {
					isRefused(t, l, v, api.ErrNone)
				} else {
					isNumber(t, l, v, 100+other)
				}
			}
		}
		isRefused(t, row(num(1), reg(k), add()), v, api.ErrNone)
		isRefused(t, row(reg(k), reg((k+1)%api.Regs), add()), v, api.ErrNone)
		isRefused(t, row(reg((k+1)%api.Regs), reg(k), add()), v, api.ErrNone)
		isRefused(t, row(reg(k), neg(), neg()), v, api.ErrNone)
		for _, n := range []int64{0, 1, -1, math.MaxInt64, math.MinInt64} { // whatever is in it
			v.Regs[k] = n
			isRefused(t, row(reg(k)), v, api.ErrNone)
		}
		v.Known[k] = true
		isNumber(t, row(reg(k)), v, math.MinInt64)
	}
}

func TestViewsWhoseListsAreShortOrLong(t *testing.T) {
	regs := wide().Regs
	for known := range 20 {
		for many := range 20 {
			v := api.View{Known: slices.Repeat([]bool{true}, known), Regs: append(slices.Clone(regs), 116, 117, 118, 119)[:many]}
			for k := range int64(api.Regs) {
				switch {
				case k >= int64(known):
					isRefused(t, row(reg(k)), v, api.ErrNone)
				case k >= int64(many):
					isNumber(t, row(reg(k)), v, 0)
				default:
					isNumber(t, row(reg(k)), v, 100+k)
				}
			}
			isWrong(t, row(reg(16))) // however many registers a view has
			isRefused(t, row(reg(16)), v, api.ErrArg)
		}
	}
	isRefused(t, row(reg(0)), api.View{}, api.ErrNone)
	isRefused(t, row(reg(15)), api.View{Regs: regs}, api.ErrNone)
	isRefused(t, row(reg(3)), api.View{Known: make([]bool, 16), Regs: regs}, api.ErrNone)
	isNumber(t, row(num(4)), api.View{}, 4)
	isNumber(t, row(base(4)), api.View{}, 4)
	isRefused(t, row(num(0), word()), api.View{}, api.ErrNone)
	isRefused(t, row(num(0), word()), api.View{Words: []int64{}}, api.ErrNone)
}

// The room behind a list's end is behind it, whatever stands there.
func TestTheRoomBehindTheEndsOfAViewsLists(t *testing.T) {
	v := wide()
	short := api.View{Known: v.Known[:3], Regs: v.Regs[:2], Words: v.Words[:4]}
	isNumber(t, row(reg(1)), short, 101)
	isNumber(t, row(reg(2)), short, 0)
	isRefused(t, row(reg(3)), short, api.ErrNone)
	isNumber(t, row(num(3), word()), short, 1003)
	isRefused(t, row(num(4), word()), short, api.ErrNone)
}

func TestWordsThatThereAre(t *testing.T) {
	for size := range 12 {
		v := api.View{Words: make([]int64, size)}
		for i := range v.Words {
			v.Words[i] = int64(70 - i)
		}
		for _, at := range []int64{math.MinInt64, -1 << 32, -2, -1, 0, 1, int64(size) - 2, int64(size) - 1, int64(size), int64(size) + 1, 1 << 32, 1<<32 + 1, math.MaxInt64} {
			for _, l := range [][]api.Loc{row(num(at), word()), row(base(at), word()), row(num(at), neg(), neg(), word())} {
				if at >= 0 && at < int64(size) {
					isNumber(t, l, v, 70-at)
				} else {
					isRefused(t, l, v, api.ErrNone)
				}
			}
		}
	}
	v := api.View{Words: []int64{2, 5, 1, -1, 4, 0}}
	isNumber(t, append(row(num(1)), times(word(), 3)...), v, 2)
	isNumber(t, append(row(num(4)), times(word(), 15)...), v, 4)
	isRefused(t, row(num(3), word(), word()), v, api.ErrNone)
	isRefused(t, row(num(6), word(), num(1), add()), v, api.ErrNone)
}

func TestNoStepsAreGone(t *testing.T) {
	for _, v := range []api.View{{}, wide(), chapters()} {
		isRefused(t, nil, v, api.ErrNone)
		isRefused(t, []api.Loc{}, v, api.ErrNone)
		isRefused(t, wrongBehind()[:0], v, api.ErrNone)
	}
}

func wrongBehind() []api.Loc { return row(reg(99), word()) }

// What is not right is told ahead of what is not known, wherever in the steps it is.
func TestWhatIsNotRightAndNotKnown(t *testing.T) {
	for _, l := range [][]api.Loc{
		row(reg(16)), row(reg(-1)), row(reg(0), reg(16), add()), row(reg(0), num(1)), row(reg(0), add()), row(reg(0), api.Loc{Kind: 7}), row(reg(0), api.Loc{Kind: api.LocNeg, N: 1}),
		row(num(-1), word(), num(1)), row(num(-1), word(), add()), row(num(5), word(), word(), reg(16), add()), row(num(-1), word(), api.Loc{}),
		append(row(reg(0)), times(neg(), mostSteps)...), append(row(num(-1), word()), times(neg(), mostSteps)...), append(row(num(1)), times(neg(), mostSteps)...),
		row(word()), row(api.Loc{}), row(num(1), num(1)),
	} {
		for _, v := range []api.View{{}, {Known: make([]bool, 16), Regs: make([]int64, 16)}, wide()} {
			isRefused(t, l, v, api.ErrArg)
		}
	}
}

func TestEvalAsTheWordsSay(t *testing.T) {
	next := dice(11)
	came := 0
	for range 60000 {
		l, v := thrown(next, next(mostSteps+1)), thrownView(next)
		if next(6) == 0 && len(l) > 0 {
			l[next(len(l))] = api.Loc{Kind: uint8(next(8)), N: int64(next(3))}
		}
		isAsTheWordsSay(t, l, v)
		if _, e := expr.Eval(l, v); e == api.OK {
			came++
		}
	}
	if came < 10000 || came > 50000 {
		t.Errorf("%d of 60000 came to a number: not both sorts were tried", came)
	}
}

// Words that point at words, so that there are such ones.
func TestEvalOfWordsAtWords(t *testing.T) {
	next := dice(12)
	for range 20000 {
		v := api.View{Known: []bool{true, true, false, true}, Regs: []int64{int64(next(6)), int64(next(6)) - 3, 2, int64(next(4))}, Base: int64(next(5))}
		for range 1 + next(6) {
			v.Words = append(v.Words, int64(next(9)-2))
		}
		l := thrown(next, next(mostSteps+1))
		for i := range l {
			switch {
			case l[i].Kind == api.LocReg:
				l[i].N %= 4
			case hasNumber(l[i].Kind):
				l[i].N = int64(next(6) - 1)
			}
		}
		isAsTheWordsSay(t, l, v)
	}
}

// What follows of P6.3

func TestALocationThatHasStepsComesToANumber(t *testing.T) {
	next := dice(13)
	for range 20000 {
		l := thrown(next, 1+next(mostSteps))
		for i := range l {
			if l[i].Kind == api.LocWord {
				l[i].Kind = api.LocNeg
			}
		}
		v := thrownView(next)
		v.Known = slices.Repeat([]bool{true}, api.Regs)
		if n, e := expr.Eval(l, v); e != api.OK {
			t.Errorf("Eval(%v, %v): %d, error %d", l, v, n, e)
		}
	}
}

// R3, R5

func TestEvalLeavesWhatIsHandedIn(t *testing.T) {
	l := row(reg(2), base(-3), word(), add(), num(1), add(), neg(), num(7), reg(16))
	v := chapters()
	v.Known, v.Regs, v.Words = slices.Grow(v.Known, 4), slices.Grow(v.Regs, 4), slices.Grow(v.Words, 4)
	kept, keptView := slices.Clone(l), clone(v)
	for size := range len(l) + 1 {
		expr.Eval(l[:size], v)
		if !slices.Equal(l, kept) || !same(v, keptView) {
			t.Errorf("Eval of %d steps changed what was handed in: %v, %v", size, l, v)
		}
	}
	isNumber(t, l[:7], v, -22)
}

// What an earlier call was handed is not looked at again.
func TestEvalKeepsNothing(t *testing.T) {
	l, v := row(reg(2), base(-3), word(), add()), chapters()
	isNumber(t, l, v, 21)
	v.Regs[2], v.Words[6] = 50, 600
	isNumber(t, l, v, 650)
	v.Known[2] = false
	isRefused(t, l, v, api.ErrNone)
	v.Known[2], v.Base = true, 4
	isNumber(t, l, v, 61)
	l[0] = num(-1)
	isNumber(t, l, v, 10)
	isNumber(t, row(reg(2), base(-3), word(), add()), chapters(), 21)
}
