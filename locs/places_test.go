package locs_test

import (
	"math"
	"slices"
	"testing"

	"theodolite/api"
	"theodolite/locs"
)

// P7.2

func TestWhatASpanHas(t *testing.T) {
	l := list(span(3, 5, reg(2)), span(5, 9, num(7)), span(12, 13, base(-3), word()), span(20, mostPlace, reg(1), neg()))
	for pc, want := range map[int][]api.Loc{
		math.MinInt: nil, math.MinInt + 3: nil, -1 << 32: nil, -1: nil, 0: nil, 2: nil, // below the first one
		3: row(reg(2)), 4: row(reg(2)), // from From on, and not with To
		5: row(num(7)), 6: row(num(7)), 8: row(num(7)),
		9: nil, 10: nil, 11: nil, // between two
		12: row(base(-3), word()), 13: nil, 19: nil,
		20: row(reg(1), neg()), mostPlace - 1: row(reg(1), neg()),
		mostPlace: nil, mostPlace + 1: nil, 1 << 32: nil, 1<<32 + 3: nil, math.MaxInt - 1: nil, math.MaxInt: nil, // behind the last one
	} {
		isAt(t, l, pc, want...)
	}
}

func TestAtWhereNothingIs(t *testing.T) {
	for _, pc := range []int{math.MinInt, -1, 0, 1, 5, math.MaxInt} {
		isAt(t, nil, pc)
		isAt(t, []api.Span{}, pc)
		isAt(t, list(span(5, 5, reg(1)), span(6, 5, reg(1)), span(math.MaxInt, math.MinInt, reg(1)), span(0, 0, reg(1)), span(1, 1, reg(1))), pc) // none has a place
	}
}

func TestAtOfListsThatAreNotRight(t *testing.T) {
	l := list(span(3, 9, reg(1)), span(5, 12, reg(2)), span(0, 20, reg(3)), span(4, 5, reg(4)))
	for pc, want := range map[int][]api.Loc{
		-1: nil, 0: row(reg(3)), 2: row(reg(3)), 3: row(reg(1)), 4: row(reg(1)), 5: row(reg(1)), 8: row(reg(1)),
		9: row(reg(2)), 11: row(reg(2)), 12: row(reg(3)), 19: row(reg(3)), 20: nil,
	} {
		isAt(t, l, pc, want...) // the first one that has it
	}
	gone := list(span(3, 5), span(0, 9, reg(1)))
	isAt(t, gone, 3) // the first one is, and says nothing
	isAt(t, gone, 5, reg(1))
	isAt(t, list(span(3, 5, word(), reg(99), api.Loc{Kind: 200, N: 1})), 4, word(), reg(99), api.Loc{Kind: 200, N: 1})
	isAt(t, list(span(-5, -3, reg(1)), span(-3, 0, reg(2))), -3, reg(2))
	for _, pc := range []int{math.MinInt, -1, 0, math.MaxInt - 1} {
		isAt(t, list(span(math.MinInt, math.MaxInt, reg(1))), pc, reg(1))
	}
	isAt(t, list(span(math.MinInt, math.MaxInt, reg(1))), math.MaxInt)
	isAt(t, append(rowOf(mostSpans), span(1<<30, 1<<31, num(9))), 1<<30, num(9)) // behind more spans than may be
}

func TestAtOfListsThatLookThrown(t *testing.T) {
	next := dice(31)
	for range 2000 {
		l := thrown(next, next(9), 10)
		all := where(l, 100)
		for pc, want := range all {
			isAt(t, l, pc, want...)
		}
	}
}

// P7.3: Cut

func TestCutOfOneSpan(t *testing.T) {
	l := list(span(10, 20, reg(1), neg()))
	part := func(from, to int) api.Span { return span(from, to, reg(1), neg()) }
	for _, c := range []struct {
		from, to int
		want     []api.Span
	}{
		{0, 5, l}, {9, 10, l}, {-5, 10, l}, {math.MinInt, 10, l}, {20, 21, l}, {20, math.MaxInt, l}, {30, 40, l}, // outside
		{9, 11, list(part(11, 20))}, {10, 11, list(part(11, 20))}, {10, 19, list(part(19, 20))}, {math.MinInt, 19, list(part(19, 20))}, // its beginning
		{19, 20, list(part(10, 19))}, {19, 21, list(part(10, 19))}, {11, 20, list(part(10, 11))}, {11, math.MaxInt, list(part(10, 11))}, // its end
		{11, 12, list(part(10, 11), part(12, 20))}, {11, 19, list(part(10, 11), part(19, 20))}, {14, 16, list(part(10, 14), part(16, 20))}, // inside
		{10, 20, nil}, {9, 21, nil}, {10, 21, nil}, {9, 20, nil}, {math.MinInt, math.MaxInt, nil}, {math.MinInt, 20, nil}, {10, math.MaxInt, nil}, // all
	} {
		isCut(t, l, c.from, c.to, c.want...)
	}
}

func TestCutOfSeveralSpans(t *testing.T) {
	one, two, three, four := span(3, 5, reg(2)), span(5, 9, num(7)), span(12, 13, reg(2)), span(20, 30, base(-3), word())
	l := list(one, two, three, four)
	for _, c := range []struct {
		from, to int
		want     []api.Span
	}{
		{0, 3, l}, {-9, -3, l}, {9, 12, l}, {10, 11, l}, {13, 20, l}, {30, 99, l}, // where nothing is
		{4, 6, list(span(3, 4, reg(2)), span(6, 9, num(7)), three, four)},
		{4, 12, list(span(3, 4, reg(2)), three, four)},
		{4, 13, list(span(3, 4, reg(2)), four)},
		{4, 25, list(span(3, 4, reg(2)), span(25, 30, base(-3), word()))},
		{5, 9, list(one, three, four)},
		{3, 9, list(three, four)},
		{0, 20, list(four)}, {0, 21, list(span(21, 30, base(-3), word()))},
		{5, 30, list(one)}, {4, math.MaxInt, list(span(3, 4, reg(2)))},
		{21, 22, list(one, two, three, span(20, 21, base(-3), word()), span(22, 30, base(-3), word()))},
		{3, 30, nil}, {math.MinInt, math.MaxInt, nil}, {0, mostPlace, nil},
	} {
		isCut(t, l, c.from, c.to, c.want...)
	}
	isCut(t, nil, 3, 5)
	isCut(t, []api.Span{}, 5, 3)
	isCut(t, list(span(0, mostPlace, reg(1))), mostPlace-1, mostPlace, span(0, mostPlace-1, reg(1)))
	isCut(t, list(span(0, mostPlace, reg(1))), 0, 1, span(1, mostPlace, reg(1)))
}

func TestCutOfNoPlaces(t *testing.T) {
	example, _ := chapters()
	same := list(span(3, 5, reg(2)), span(5, 9, reg(2)))
	wrong := list(span(5, 5, reg(1)), span(9, 3, reg(1)), span(3, 5), span(0, 9, word()), span(math.MaxInt, math.MinInt, reg(1)))
	for _, l := range [][]api.Span{nil, example, same, wrong} {
		for _, c := range [][2]int{{4, 4}, {6, 6}, {6, 4}, {0, 0}, {9, 3}, {100, 0}, {3, 2}, {math.MaxInt, math.MinInt}, {0, math.MinInt}, {math.MaxInt, math.MaxInt}, {math.MinInt, math.MinInt}, {math.MaxInt, 4}, {4, math.MinInt}} {
			isCut(t, l, c[0], c[1], l...)
		}
	}
}

func TestCutOfListsThatAreNotRight(t *testing.T) {
	isCut(t, list(span(5, 12, reg(1)), span(0, 7, reg(2)), span(6, 8, reg(3))), 6, 8, span(5, 6, reg(1)), span(8, 12, reg(1)), span(0, 6, reg(2))) // in order, each for itself
	isCut(t, list(span(0, 9), span(3, 5, word())), 4, 6, span(0, 4), span(6, 9), span(3, 4, word()))                                               // what they say is not asked
	isCut(t, list(span(5, 5, reg(1)), span(9, 3, reg(1)), span(0, 2, reg(1))), 6, 8, span(0, 2, reg(1)))                                           // nothing lies anywhere of the first two
	isCut(t, list(span(-9, -3, reg(1))), -5, -4, span(-9, -5, reg(1)), span(-4, -3, reg(1)))
	all := list(span(math.MinInt, math.MaxInt, reg(1)))
	isCut(t, all, 4, 6, span(math.MinInt, 4, reg(1)), span(6, math.MaxInt, reg(1)))
	isCut(t, all, math.MinInt, 0, span(0, math.MaxInt, reg(1)))
	isCut(t, all, math.MinInt, math.MinInt+1, span(math.MinInt+1, math.MaxInt, reg(1)))
	isCut(t, all, 0, math.MaxInt, span(math.MinInt, 0, reg(1)))
	isCut(t, all, math.MaxInt-1, math.MaxInt, span(math.MinInt, math.MaxInt-1, reg(1)))
	isCut(t, all, math.MinInt, math.MaxInt)
	isCut(t, list(span(math.MaxInt, math.MinInt, reg(1))), 4, 6)
}

// One of the most spans that may be is cut in two: the words make no list of it that is right, and tell no error.
func TestCutOfAsManySpansAsThereMayBe(t *testing.T) {
	l := rowOf(mostSpans)
	isCut(t, l, 2, 3, slices.Delete(clone(l), 1, 2)...)
	l[1].To, l[1].From = 4, 1
	c := locs.Cut(l, 2, 3)
	if len(c) != mostSpans+1 || c[1].From != 1 || c[1].To != 2 || c[2].From != 3 || c[2].To != 4 || !locs.Right(l) {
		t.Errorf("%d spans: %v", len(c), few(c))
	}
}

func TestCutAtEachPlace(t *testing.T) {
	for _, l := range [][]api.Span{
		nil, list(span(0, 1, reg(1))), list(span(3, 5, reg(2)), span(5, 9, num(7))), list(span(3, 5, reg(2)), span(5, 9, reg(2))), list(span(0, 4, reg(1)), span(6, 7, reg(2)), span(10, 14, reg(3))),
		list(span(2, 8, reg(1)), span(0, 12, reg(2)), span(5, 5, reg(3))),
	} {
		for from := -2; from < 18; from++ {
			for to := -2; to < 18; to++ {
				isCut(t, l, from, to, left(l, from, to, 20)...)
			}
		}
	}
}

// P7.3: Join

func TestJoinOfTwo(t *testing.T) {
	for _, c := range []struct {
		l, want []api.Span
	}{
		{list(span(3, 5, reg(2)), span(5, 9, reg(2))), list(span(3, 9, reg(2)))},
		{list(span(0, 1, base(-3), word()), span(1, mostPlace, base(-3), word())), list(span(0, mostPlace, base(-3), word()))},
		{list(span(3, 5, reg(2)), span(6, 9, reg(2))), nil},        // they do not touch
		{list(span(3, 5, reg(2)), span(5, 9, reg(3))), nil},        // other steps: another number
		{list(span(3, 5, reg(2)), span(5, 9, num(2))), nil},        // another kind
		{list(span(3, 5, reg(2)), span(5, 9, reg(2), neg())), nil}, // one begins like the other
		{list(span(3, 5, reg(2), neg()), span(5, 9, reg(2))), nil},
		{list(span(3, 5, reg(2), neg(), neg()), span(5, 9, reg(2), neg())), nil},
		{list(span(3, 5, reg(1), reg(2), add()), span(5, 9, reg(2), reg(1), add())), nil}, // the same steps in another order, the same number
		{list(span(3, 5, num(2)), span(5, 9, num(1), num(1), add())), nil},
	} {
		want := c.want
		if want == nil {
			want = c.l
		}
		isJoined(t, c.l, want...)
	}
}

func TestJoinOfMore(t *testing.T) {
	isJoined(t, nil)
	isJoined(t, []api.Span{})
	isJoined(t, list(span(3, 5, reg(2))), span(3, 5, reg(2)))
	isJoined(t, list(span(1, 2, reg(2)), span(2, 5, reg(2)), span(5, 6, reg(2))), span(1, 6, reg(2))) // three in a row
	isJoined(t, list(span(1, 2, reg(2)), span(2, 5, reg(2)), span(5, 6, reg(2)), span(6, 7, reg(2)), span(8, 9, reg(2))), span(1, 7, reg(2)), span(8, 9, reg(2)))
	isJoined(t, list(span(1, 2, reg(2)), span(2, 5, reg(3)), span(5, 6, reg(2))), span(1, 2, reg(2)), span(2, 5, reg(3)), span(5, 6, reg(2))) // the one ahead counts alone
	isJoined(t, list(span(1, 2, reg(2)), span(2, 3, reg(2)), span(3, 5, reg(3)), span(5, 6, reg(3)), span(6, 7, reg(2)), span(9, 10, reg(2)), span(10, 11, reg(2))), span(1, 3, reg(2)), span(3, 6, reg(3)), span(6, 7, reg(2)), span(9, 11, reg(2)))
	var long []api.Span
	for i := range 2 * mostSpans {
		long = append(long, span(3*i, 3*i+3, reg(2)))
	}
	isJoined(t, long, span(0, 6*mostSpans, reg(2)))
	isJoined(t, rowOf(2*mostSpans), rowOf(2*mostSpans)...)
}

func TestJoinOfListsThatAreNotRight(t *testing.T) {
	isJoined(t, list(span(3, 5), span(5, 9), span(9, 10, reg(1))), span(3, 9), span(9, 10, reg(1))) // nothing is said, and nothing again
	isJoined(t, list(span(3, 5, word(), reg(99)), span(5, 9, word(), reg(99))), span(3, 9, word(), reg(99)))
	isJoined(t, list(span(3, 6, reg(1)), span(5, 9, reg(1))), span(3, 6, reg(1)), span(5, 9, reg(1)))                     // more than touching
	isJoined(t, list(span(5, 9, reg(1)), span(3, 5, reg(1))), span(5, 9, reg(1)), span(3, 5, reg(1)))                     // the other way round
	isJoined(t, list(span(3, 5, reg(1)), span(5, 5, reg(1)), span(5, 5, reg(1)), span(5, 9, reg(1))), span(3, 9, reg(1))) // without places
	isJoined(t, list(span(-9, -3, reg(1)), span(-3, 0, reg(1)), span(0, 4, reg(1))), span(-9, 4, reg(1)))
	isJoined(t, list(span(math.MinInt, -1, reg(1)), span(-1, 7, reg(1)), span(7, math.MaxInt, reg(1))), span(math.MinInt, math.MaxInt, reg(1)))
	isJoined(t, list(span(0, math.MaxInt, reg(1)), span(math.MinInt, 0, reg(1))), span(0, math.MaxInt, reg(1)), span(math.MinInt, 0, reg(1))) // the greatest one is not next to the least one
	isJoined(t, list(span(3, 5, reg(1)), span(5, 4, reg(1)), span(4, 9, reg(1))), span(3, 9, reg(1)))                                         // it ends where the last one does
}

// What follows of P7.3

func TestBehindCutItIsGone(t *testing.T) {
	const most = 60
	next := dice(32)
	for range 4000 {
		l := thrown(next, next(9), 8)
		from, to := next(most)-4, next(most)-4
		c := locs.Cut(l, from, to)
		if !locs.Right(c) || !same(c, left(l, from, to, 200)) {
			t.Fatalf("Cut(%v, %d, %d): %v", l, from, to, c)
		}
		for pc, want := range where(l, most) {
			if from <= pc && pc < to {
				want = nil
			}
			isAt(t, c, pc, want...)
		}
	}
}

func TestJoinTurnsItNowhere(t *testing.T) {
	const most = 200
	next := dice(33)
	fewer := 0
	for range 4000 {
		l := thrown(next, next(12), 8)
		for i := range l { // few other steps, so that many say the same
			l[i].At = [][]api.Loc{row(reg(1)), row(reg(1), neg())}[next(2)]
		}
		j := locs.Join(l)
		if !locs.Right(j) || !same(j, whole(l, most)) {
			t.Fatalf("Join(%v): %v", l, j)
		}
		for pc, want := range where(l, most) {
			isAt(t, j, pc, want...)
		}
		isJoined(t, j, j...)
		if len(j) < len(l) {
			fewer++
		}
	}
	if fewer < 1000 || fewer > 3500 {
		t.Errorf("of %d of 4000 some were joined: not both sorts were tried", fewer)
	}
}

func TestWhatWasCutAndJoinedIsPutAndGot(t *testing.T) {
	next := dice(34)
	for range 1000 {
		l := thrown(next, next(9), 300)
		from := next(600)
		l = locs.Cut(l, from, from+next(200))
		isList(t, l, own(l))
		l = locs.Join(l)
		isList(t, l, own(l))
	}
}
