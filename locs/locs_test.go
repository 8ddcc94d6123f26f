package locs_test

import (
	"math"
	"slices"
	"strings"
	"testing"

	"theodolite/api"
	"theodolite/leb"
	"theodolite/locs"
)

// chapters is the list of the chapter's examples, and its bytes.
func chapters() ([]api.Span, string) {
	return list(span(3, 5, reg(2)), span(5, 9, num(7))), "\x02\x03\x02\x01\x02\x02\x00\x04\x01\x01\x07"
}

func TestExamples(t *testing.T) {
	l, b := chapters()
	isList(t, l, b)
	isAt(t, l, 4, reg(2))
	isAt(t, l, 9)
	isCut(t, l, 4, 6, span(3, 4, reg(2)), span(6, 9, num(7)))
	isJoined(t, list(span(3, 5, reg(2)), span(5, 9, reg(2))), span(3, 9, reg(2)))
}

// P7.1: Right and Put

func TestListsThatAreRight(t *testing.T) {
	for _, c := range []struct {
		l    []api.Span
		want string
	}{
		{nil, "\x00"},
		{[]api.Span{}, "\x00"},
		{list(span(0, 1, reg(0))), "\x01\x00\x01\x01\x02\x00"},
		{list(span(1, 2, num(-1))), "\x01\x01\x01\x01\x01\x7f"},
		{list(span(127, 254, base(64))), "\x01\x7f\x7f\x01\x03\xc0\x00"},
		{list(span(128, 256, base(-3), word())), "\x01\x80\x01\x80\x01\x02\x03\x7d\x04"},
		{list(span(0, 1<<24, reg(15))), "\x01\x00\x80\x80\x80\x08\x01\x02\x0f"},
		{list(span(1<<24-1, 1<<24, reg(15))), "\x01\xff\xff\xff\x07\x01\x01\x02\x0f"},
		{list(span(0, 1, reg(1)), span(1, 2, reg(1))), "\x02\x00\x01\x01\x02\x01\x00\x01\x01\x02\x01"},
		{list(span(0, 1, reg(1)), span(2, 3, reg(1))), "\x02\x00\x01\x01\x02\x01\x01\x01\x01\x02\x01"},
		{list(span(0, 1, reg(1)), span(1<<24-1, 1<<24, reg(1))), "\x02\x00\x01\x01\x02\x01\xfe\xff\xff\x07\x01\x01\x02\x01"},
		{list(span(300, 600, reg(3)), span(600, 601, num(7), neg(), reg(2), add()), span(700, 1000, num(0))), "\x03\xac\x02\xac\x02\x01\x02\x03\x00\x01\x04\x01\x07\x06\x02\x02\x05\x63\xac\x02\x01\x01\x00"},
	} {
		isList(t, c.l, c.want)
	}
}

func TestHowManySpansThereMayBe(t *testing.T) {
	for _, many := range []int{1, 2, 127, 128, 129, mostSpans - 1, mostSpans} {
		isList(t, rowOf(many), own(rowOf(many)))
	}
	for _, many := range []int{mostSpans + 1, mostSpans + 2, 2 * mostSpans, 1<<13 + mostSpans, 1<<16 + 1} {
		isWrong(t, rowOf(many))
	}
	isWrong(t, make([]api.Span, mostSpans+1))
	isWrong(t, make([]api.Span, 1<<20))
	if b, e := locs.Put(nil, rowOf(mostSpans)); !strings.HasPrefix(string(b), "\xa0\x1f\x00\x01\x01\x02\x00\x01\x01\x01\x02\x01") || e != api.OK {
		t.Errorf("Put of %d spans: %x, error %d", mostSpans, some(b), e)
	}
}

func TestWhereASpanMayBegin(t *testing.T) {
	for _, from := range []int{-1, -2, -5, -1 << 24, -1 << 32, math.MinInt} {
		isWrong(t, list(span(from, 3, reg(1))))
		isWrong(t, list(span(from, from+1, reg(1))))
		isWrong(t, list(span(from, 3, reg(1)), span(3, 5, reg(1))))
		isWrong(t, list(span(3, 5, reg(1)), span(from, 9, reg(1))))
		isWrong(t, list(span(3, 5, reg(1)), span(5, 9, reg(1)), span(from, 12, reg(1))))
	}
	isList(t, list(span(0, 3, reg(1))), "\x01\x00\x03\x01\x02\x01")
}

func TestWhereTheOneAheadEnds(t *testing.T) {
	for from := range 20 {
		two := list(span(3, 9, reg(1)), span(from, 20, reg(2)))
		among := list(span(0, 1, reg(3)), two[0], two[1], span(20, 21, reg(3)))
		if from < 9 {
			isWrong(t, two)
			isWrong(t, among)
			continue
		}
		isList(t, two, "\x02\x03\x06\x01\x02\x01"+string([]byte{byte(from - 9), byte(20 - from)})+"\x01\x02\x02")
		isList(t, among, own(among))
	}
	// It is the one just ahead that counts, and each of them.
	isWrong(t, list(span(3, 5, reg(1)), span(7, 9, reg(1)), span(6, 7, reg(1))))
	isWrong(t, list(span(3, 5, reg(1)), span(7, 9, reg(1)), span(5, 7, reg(1))))
	isWrong(t, list(span(7, 9, reg(1)), span(3, 5, reg(1))))
	isWrong(t, list(span(3, 5, reg(1)), span(3, 5, reg(1))))
	isWrong(t, list(span(0, 1<<24, reg(1)), span(0, 1<<24, reg(1))))
}

func TestWhereASpanMayEnd(t *testing.T) {
	for _, from := range []int{0, 1, 5, 200, 1<<24 - 1} {
		for _, to := range []int{from - 1, from, from - 100, 0, -1, math.MinInt, math.MinInt + from} {
			if to > from {
				continue
			}
			isWrong(t, list(span(from, to, reg(1))))
			isWrong(t, list(span(from, to, reg(1)), span(from, from+1, reg(1))))
		}
		isList(t, list(span(from, from+1, reg(1))), own(list(span(from, from+1, reg(1)))))
	}
	for _, to := range []int{mostPlace + 1, mostPlace + 2, 1 << 25, 1 << 31, 1 << 32, 1<<32 + 4, 1 << 48, math.MaxInt - 1, math.MaxInt} {
		isWrong(t, list(span(3, to, reg(1))))
		isWrong(t, list(span(0, 3, reg(1)), span(3, to, reg(1))))
		isWrong(t, list(span(to-1, to, reg(1))))
		isWrong(t, list(span(mostPlace, to, reg(1))))
		isWrong(t, list(span(math.MinInt, to, reg(1))))
	}
	isWrong(t, list(span(mostPlace, mostPlace, reg(1))))
	isWrong(t, list(span(math.MaxInt, math.MinInt, reg(1))))
	isWrong(t, list(span(0, mostPlace, reg(1)), span(mostPlace, mostPlace+1, reg(1))))
	isList(t, list(span(mostPlace-2, mostPlace-1, reg(1)), span(mostPlace-1, mostPlace, reg(1))), "\x02\xfe\xff\xff\x07\x01\x01\x02\x01\x00\x01\x01\x02\x01")
}

// wrongSteps are those that no span may say.
func wrongSteps() [][]api.Loc {
	return [][]api.Loc{
		nil, {}, row(word()), row(num(1), num(1)), row(reg(16)), row(reg(-1)), row(num(1), add()), row(num(1), num(2), neg()), row(api.Loc{}), row(api.Loc{Kind: 7}),
		row(num(1), api.Loc{Kind: api.LocNeg, N: 1}), slices.Concat(row(num(1)), slices.Repeat(row(neg()), 16)),
	}
}

func TestWhatASpanMaySay(t *testing.T) {
	for _, at := range wrongSteps() {
		for many := 1; many <= 4; many++ {
			for i := range many {
				l := rowOf(many)
				l[i].At = at
				isWrong(t, l)
			}
		}
		for _, i := range []int{0, 1, mostSpans / 2, mostSpans - 1} {
			l := rowOf(mostSpans)
			l[i].At = at
			isWrong(t, l)
		}
	}
	full := append(row(num(1)), slices.Repeat(row(neg()), 15)...)
	isList(t, list(span(3, 5, full...)), "\x01\x03\x02\x10\x01\x01"+strings.Repeat("\x06", 15))
}

func TestOneWrongSpanIsEnough(t *testing.T) {
	l := list(span(0, 3, reg(1)), span(3, 5, num(2)), span(7, 9, base(-3), word()), span(9, 10, reg(1)), span(12, 20, reg(4)))
	isList(t, l, own(l))
	for i, s := range l {
		for _, x := range list(
			span(-1, s.To, s.At...), span(s.From, s.From, s.At...), span(s.To, s.From, s.At...), span(s.From, s.To), span(s.From, s.To, word()),
			span(s.From, mostPlace+1, s.At...), span(s.From, math.MaxInt, s.At...), span(math.MinInt, s.To, s.At...), api.Span{},
		) {
			c := slices.Clone(l)
			c[i] = x
			isWrong(t, c)
		}
	}
}

func TestFewSpansOfEachSort(t *testing.T) {
	sorts := list(span(0, 3, reg(1)), span(3, 5, reg(1)), span(4, 6, num(2)), span(6, 6, num(2)), span(7, 6, num(2)), span(5, 9), span(5, 9, reg(3)), span(6, 9, word()), span(-1, 1, reg(1)), span(9, mostPlace, reg(1)), span(9, mostPlace+1, reg(1)))
	n := len(sorts)
	for x := range n * n * n {
		l := list(sorts[x%n], sorts[x/n%n], sorts[x/n/n])
		for size := range len(l) + 1 {
			isRightAsTheWordsSay(t, l[:size])
		}
	}
}

func TestWrongSpansAmongRightOnes(t *testing.T) {
	next := dice(21)
	ends := []int{-1, 0, 1, 40, 300, mostPlace, math.MaxInt, math.MinInt}
	right := 0
	for range 8000 {
		l := thrown(next, 1+next(8), 30)
		switch at := next(len(l)); next(5) {
		case 0:
			l[at].From += next(9) - 4
		case 1:
			l[at].To += next(9) - 4
		case 2:
			l[at].From = ends[next(len(ends))]
		case 3:
			l[at].To = ends[next(len(ends))] + next(3) - 1
		case 4:
			l[at].At[0].N += int64(next(3))
		}
		isRightAsTheWordsSay(t, l)
		if isRight(l) {
			right++
		}
	}
	if right < 1000 || right > 7000 {
		t.Errorf("%d of 8000 were right: not both sorts were tried", right)
	}
}

// P7.1: Get

func TestPlacesThatThereAreNot(t *testing.T) {
	_, example := chapters()
	for _, b := range []string{"", "\x00", "\x01\x00\x01\x01\x02\x00", example} {
		for _, at := range []int{-1, -2, math.MinInt, -1 << 32, len(b) + 1, len(b) + 2, len(b) + 1<<32, math.MaxInt} {
			isNotGot(t, b, at, api.ErrArg)
		}
		isNotGot(t, b, len(b), api.ErrForm)
	}
	isGot(t, "\x00", 0, nil, 1)
	isGot(t, "\xff\x00", 1, nil, 2)
}

func TestBytesAheadAndBehind(t *testing.T) {
	l, b := chapters()
	for _, ahead := range []string{"", "\x00", "\x01", "\xff", "\x80", "\x01\x03\x02", "\x02\x03\x02\x01\x02\x02"} {
		for _, behind := range []string{"", "\x00", "\x01", "\x02\x02", "\x7f", "\x80", "\xff", "\x00\x04\x01\x01\x07"} {
			isGot(t, ahead+"\x00"+behind, len(ahead), nil, len(ahead)+1)
			isGot(t, ahead+b+behind, len(ahead), l, len(ahead+b))
			isGot(t, ahead+"\x01\x03\x02\x01\x02\x02"+behind, len(ahead), list(span(3, 5, reg(2))), len(ahead)+6)
		}
	}
	isGot(t, "\x01\x03\x02\x01\x02\x02\x00\x01\x00\x01\x01\x02\x01", 6, nil, 7)
	isGot(t, "\x01\x03\x02\x01\x02\x02\x00\x01\x00\x01\x01\x02\x01", 7, list(span(0, 1, reg(1))), 13)
}

// Each beginning of a list's bytes is none, wherever it is cut: in the count, in the middle of each number, between two, in steps, between two spans.
func TestBytesThatAreCutOff(t *testing.T) {
	example, _ := chapters()
	for _, l := range [][]api.Span{
		nil, example, list(span(300, 600, num(300))), list(span(mostPlace-1, mostPlace, num(math.MinInt64))), list(span(0, mostPlace, base(math.MaxInt64), word())),
		list(span(1000, 2000, num(7), neg(), reg(2), add()), span(3000, 4000, reg(1)), span(4000, 9000, base(-300), word())), rowOf(200),
	} {
		b := own(l)
		isGot(t, b, 0, l, len(b))
		for size := range len(b) {
			for _, ahead := range []string{"", "\x00", "\x80\x80"} {
				isNotGot(t, ahead+b[:size], len(ahead), api.ErrForm)
				whole := []byte(ahead + b) // the room behind the end holds the rest: it does not count
				if l, next, e := locs.Get(whole[:len(ahead)+size], len(ahead)); len(l) != 0 || next != 0 || e != api.ErrForm {
					t.Errorf("Get of %d bytes of %x: %v, %d, error %d", size, some(b), few(l), next, e)
				}
			}
		}
	}
	isNotGot(t, own(rowOf(mostSpans))[:4*mostSpans], 0, api.ErrForm)
}

func TestNumbersThatDoNotStandThere(t *testing.T) {
	nine, full := strings.Repeat("\x80", 9), strings.Repeat("\xff", 9)
	for _, x := range []string{"\x80\x00", "\x81\x00", "\x83\x80\x00", "\xff\x80\x80\x00", nine + "\x00", full + "\x00", nine + "\x02", full + "\x7f", nine + "\x80\x00", full + "\xff\x01", full + "\xff"} {
		for _, b := range []string{
			x, x + "\x03\x02\x01\x02\x02", "\x01" + x, "\x01" + x + "\x02\x01\x02\x02", "\x01\x03" + x, "\x01\x03" + x + "\x01\x02\x02",
			"\x02\x03\x02\x01\x02\x02" + x + "\x04\x01\x01\x07", "\x02\x03\x02\x01\x02\x02\x00" + x + "\x01\x01\x07", "\x01\x03\x02" + x + "\x02\x02", "\x01\x03\x02\x01\x02" + x,
		} {
			for _, behind := range []string{"", "\x00", "\x01\x02\x02", "\x01\x03\x02\x01\x02\x02"} {
				isNotGot(t, b+behind, 0, api.ErrForm)
				isNotGot(t, "\x00"+b+behind, 1, api.ErrForm)
			}
		}
	}
}

// What a number that is too great comes to may be a place again, if sums of 32 or 64 bits go round.
func TestNumbersThatAreTooGreat(t *testing.T) {
	put := func(x uint64) string { return string(leb.PutU(nil, x)) }
	two := func(gap, long uint64) string {
		return "\x02\x05\x05\x01\x02\x02" + put(gap) + put(long) + "\x01\x02\x02"
	}
	isGot(t, two(0, mostPlace-10), 0, list(span(5, 10, reg(2)), span(10, mostPlace, reg(2))), 14)
	isGot(t, two(mostPlace-11, 1), 0, list(span(5, 10, reg(2)), span(mostPlace-1, mostPlace, reg(2))), 14)
	for _, x := range []uint64{1 << 32, 1 << 33, 1 << 63, 0} {
		for back := range uint64(25) {
			for _, small := range []uint64{0, 1, 2, 9, 20, x - back} {
				if x-back > mostPlace {
					isNotGot(t, two(x-back, small), 0, api.ErrForm)
					isNotGot(t, two(small, x-back), 0, api.ErrForm)
				}
				isNotGot(t, two(x+back+mostPlace, small), 0, api.ErrForm)
				isNotGot(t, two(small, x+back+mostPlace), 0, api.ErrForm)
			}
		}
	}
	for _, x := range []uint64{mostPlace - 9, mostPlace - 8, mostPlace, mostPlace + 1, 1 << 25, 1 << 31, 1<<63 - 1, 1 << 63, math.MaxUint64} {
		isNotGot(t, two(0, x), 0, api.ErrForm)
		isNotGot(t, two(x, 1), 0, api.ErrForm)
	}
	for _, x := range []uint64{mostPlace + 1, mostPlace + 2, 1 << 25, 1 << 31, 1 << 32, 1<<32 + 3, 1<<63 - 1, 1 << 63, math.MaxUint64 - 1, math.MaxUint64} {
		isNotGot(t, "\x01"+put(x-1)+"\x01\x01\x02\x02", 0, api.ErrForm)
		isNotGot(t, "\x01\x00"+put(x)+"\x01\x02\x02", 0, api.ErrForm)
		isNotGot(t, "\x01\x03"+put(x-3)+"\x01\x02\x02", 0, api.ErrForm)
	}
	isNotGot(t, "\x01"+put(mostPlace)+"\x00\x01\x02\x02", 0, api.ErrForm)
	isNotGot(t, "\x01"+put(mostPlace)+"\x01\x01\x02\x02", 0, api.ErrForm)
	isNotGot(t, "\x02"+strings.Repeat("\x00"+put(mostPlace)+"\x01\x02\x02", 2), 0, api.ErrForm)
}

func TestCountsThatAreTooGreat(t *testing.T) {
	spans := strings.Repeat("\x00\x01\x01\x02\x02", 3*mostSpans)
	count := func(many uint64) string { return string(leb.PutU(nil, many)) }
	if l, next, e := locs.Get([]byte(count(mostSpans)+spans), 0); len(l) != mostSpans || next != 2+5*mostSpans || e != api.OK || l[mostSpans-1].To != mostSpans {
		t.Errorf("Get of %d spans: %v, %d, error %d", mostSpans, few(l), next, e)
	}
	for _, many := range []uint64{mostSpans + 1, mostSpans + 2, 2 * mostSpans, 3 * mostSpans, 1 << 16, 1<<16 + 1, 1 << 31, 1 << 32, 1<<32 + 1, 1<<63 - 1, 1 << 63, 1<<63 + 1, math.MaxUint64, math.MaxUint64 - mostSpans} {
		for _, behind := range []string{"", "\x00", "\x00\x01\x01\x02\x02", spans} {
			isNotGot(t, count(many)+behind, 0, api.ErrForm)
		}
	}
	isNotGot(t, count(mostSpans)+spans[:5*mostSpans-5], 0, api.ErrForm)
}

func TestBytesOfWhatIsNotRight(t *testing.T) {
	for _, b := range []string{
		"\x01\x03\x00\x01\x02\x02", "\x01\x00\x00\x01\x02\x02", "\x02\x03\x02\x01\x02\x02\x00\x00\x01\x01\x07", "\x02\x03\x00\x01\x02\x02\x00\x04\x01\x01\x07", // no places
		"\x01\x03\x02\x00", "\x02\x03\x02\x00\x00\x04\x01\x01\x07", "\x02\x03\x02\x01\x02\x02\x00\x04\x00", // no steps
		"\x01\x03\x02\x01\x02\x10", "\x01\x03\x02\x01\x04", "\x01\x03\x02\x01\x07\x00", "\x01\x03\x02\x02\x01\x01\x01\x01", "\x01\x03\x02\x11\x01\x01" + strings.Repeat("\x06", 16), // steps that are not right
		"\x02\x03\x02\x01\x04\x00\x04\x01\x01\x07", "\x02\x03\x02\x01\x02\x02\x00\x04\x01\x02\x10",
		"\x01", "\x02\x03\x02\x01\x02\x02", "\x03\x03\x02\x01\x02\x02\x00\x04\x01\x01\x07", // fewer than the count
	} {
		isNotGot(t, b, 0, api.ErrForm)
		isNotGot(t, "\x01"+b, 1, api.ErrForm)
		isGotAsTheWordsSay(t, b)
		isGotAsTheWordsSay(t, b+"\x00\xff")
	}
}

func TestGetOfFewBytes(t *testing.T) {
	for x := range 1 << 16 {
		b := string([]byte{byte(x >> 8), byte(x)})
		isGotAsTheWordsSay(t, b)
		isGotAsTheWordsSay(t, "\x01"+b+"\x01\x02\x02")
		isGotAsTheWordsSay(t, "\x01\x03\x02"+b+"\x02")
	}
}

func TestGetOfBytesThatLookThrown(t *testing.T) {
	signs := []byte{0, 1, 2, 3, 4, 5, 6, 7, 127, 128, 255}
	next := dice(22)
	for range 20000 {
		b := make([]byte, 1+next(24))
		for i := range b {
			b[i] = byte(next(256))
			if next(4) > 0 {
				b[i] = signs[next(len(signs))]
			}
		}
		isGotAsTheWordsSay(t, string(b))
	}
}

// Bytes of right lists, of which a few are others, or fewer, or more.
func TestGetOfBytesThatAreNearlyRight(t *testing.T) {
	next := dice(23)
	right := 0
	for range 20000 {
		b := []byte(own(thrown(next, next(5), 200)))
		for range next(3) {
			switch at := next(len(b)); next(3) {
			case 0:
				b[at] = byte(next(256))
			case 1:
				b = slices.Insert(b, at, byte(next(8)))
			case 2:
				b = append(slices.Delete(b, at, at+1), byte(next(8)))
			}
		}
		isGotAsTheWordsSay(t, string(b))
		if _, _, e := locs.Get(b, 0); e == api.OK {
			right++
		}
	}
	if right < 5000 || right > 19000 {
		t.Errorf("%d of 20000 were lists: not both sorts were tried", right)
	}
}

// What follows of P7.1

func TestWhatIsPutIsGot(t *testing.T) {
	next := dice(24)
	sizes := map[int]int{}
	for range 3000 {
		l := thrown(next, next(20), []int{1, 10, 200, 100000}[next(4)])
		sizes[len(l)]++
		isList(t, l, own(l))
	}
	for size := range 20 {
		if sizes[size] == 0 {
			t.Errorf("none of %d spans was tried", size)
		}
	}
}

func TestListsOneBehindTheOther(t *testing.T) {
	next := dice(25)
	var b []byte
	var all [][]api.Span
	var ends []int
	for range 300 {
		l := thrown(next, next(10), 300)
		var e api.Errno
		if b, e = locs.Put(b, l); e != api.OK {
			t.Fatalf("Put of %v: error %d", l, e)
		}
		all, ends = append(all, l), append(ends, len(b))
	}
	at := 0
	for i, l := range all {
		isGot(t, string(b), at, l, ends[i])
		at = ends[i]
	}
}
