package expr_test

import (
	"math"
	"slices"
	"strings"
	"testing"

	"theodolite/api"
	"theodolite/expr"
	"theodolite/leb"
)

// example is a row of the chapter's table: a location, its bytes, and what it comes to in the chapter's view.
type example struct {
	l     []api.Loc
	right bool
	b     string
	n     int64
	e     api.Errno
}

func examples() []example {
	return []example{
		{row(reg(2)), true, "\x01\x02\x02", 5, api.OK},
		{row(base(-3), word()), true, "\x02\x03\x7d\x04", 16, api.OK},
		{row(num(7), neg(), reg(2), add()), true, "\x04\x01\x07\x06\x02\x02\x05", -2, api.OK},
		{nil, true, "\x00", 0, api.ErrNone},
		{row(word()), false, "", 0, api.ErrArg},
		{row(num(1), num(1)), false, "", 0, api.ErrArg},
	}
}

func TestExamples(t *testing.T) {
	for _, c := range examples() {
		if !c.right {
			isWrong(t, c.l)
			isRefused(t, c.l, chapters(), c.e)
			continue
		}
		isLocation(t, c.l, c.b)
		if c.e != api.OK {
			isRefused(t, c.l, chapters(), c.e)
		} else {
			isNumber(t, c.l, chapters(), c.n)
		}
	}
}

// P6.1

func TestLocationsThatAreRight(t *testing.T) {
	for _, c := range []struct {
		l    []api.Loc
		want string
	}{
		{[]api.Loc{}, "\x00"},
		{row(num(0)), "\x01\x01\x00"},
		{row(num(-1)), "\x01\x01\x7f"},
		{row(num(300)), "\x01\x01\xac\x02"},
		{row(num(math.MaxInt64)), "\x01\x01" + strings.Repeat("\xff", 9) + "\x00"},
		{row(num(math.MinInt64)), "\x01\x01" + strings.Repeat("\x80", 9) + "\x7f"},
		{row(reg(0)), "\x01\x02\x00"},
		{row(reg(15)), "\x01\x02\x0f"},
		{row(base(0)), "\x01\x03\x00"},
		{row(base(64)), "\x01\x03\xc0\x00"},
		{row(base(math.MaxInt64)), "\x01\x03" + strings.Repeat("\xff", 9) + "\x00"},
		{row(base(math.MinInt64)), "\x01\x03" + strings.Repeat("\x80", 9) + "\x7f"},
		{row(num(5), word()), "\x02\x01\x05\x04"},
		{row(num(5), neg()), "\x02\x01\x05\x06"},
		{row(num(5), reg(1), add()), "\x03\x01\x05\x02\x01\x05"},
		{row(reg(1), word(), word(), neg()), "\x04\x02\x01\x04\x04\x06"},
		{row(num(1), num(2), num(3), add(), add()), "\x05\x01\x01\x01\x02\x01\x03\x05\x05"},
		{row(num(1), num(2), add(), num(3), add()), "\x05\x01\x01\x01\x02\x05\x01\x03\x05"},
	} {
		isLocation(t, c.l, c.want)
	}
}

func TestHowManyStepsThereMayBe(t *testing.T) {
	for many := range 40 {
		for _, x := range row(neg(), word()) {
			l := append(row(num(1)), times(x, many)...)
			if len(l) <= mostSteps {
				isLocation(t, l, string([]byte{byte(len(l)), 1, 1})+strings.Repeat(string([]byte{x.Kind}), many))
			} else {
				isWrong(t, l)
			}
		}
	}
	isWrong(t, append(row(num(1)), times(neg(), 1<<8+14)...)) // 15 more than a byte tells
	isWrong(t, append(row(num(1)), times(neg(), 1<<20)...))
	isWrong(t, times(num(1), 1<<20))
	isWrong(t, make([]api.Loc, mostSteps+1))
}

func TestHowManyNumbersThereMayBe(t *testing.T) {
	for many := 1; many <= 12; many++ {
		for more := range 4 {
			l := slices.Concat(times(num(1), many), times(neg(), more), times(add(), many-1))
			if len(l) <= mostSteps && many <= mostNumbers {
				isLocation(t, l, own(l))
			} else {
				isWrong(t, l)
			}
		}
	}
	full := slices.Concat(times(reg(3), mostNumbers), times(add(), mostNumbers-1))
	isLocation(t, full, "\x0f"+strings.Repeat("\x02\x03", 8)+strings.Repeat("\x05", 7))
	isLocation(t, slices.Insert(full, mostNumbers, word()), "\x10"+strings.Repeat("\x02\x03", 8)+"\x04"+strings.Repeat("\x05", 7))
	isWrong(t, slices.Concat(times(num(1), mostNumbers+1), times(add(), mostNumbers)))
	isWrong(t, slices.Concat(times(num(1), mostNumbers+1), times(add(), mostNumbers-2)))
}

func TestKindsThatThereAre(t *testing.T) {
	for kind := range 256 {
		x := api.Loc{Kind: uint8(kind)}
		lists := [][]api.Loc{{x}, {num(1), x}, {num(1), num(2), x}, {num(1), x, add()}, {num(1), x, neg()}}
		right := 0
		for _, l := range lists {
			isRightAsTheWordsSay(t, l)
			if expr.Right(l) {
				right++
			}
		}
		if there := kind >= 1 && kind <= 6; (right > 0) != there {
			t.Errorf("kind %d: %d of %v are right", kind, right, lists)
		}
	}
}

func TestNumbersOfRegisters(t *testing.T) {
	for n := int64(0); n <= 15; n++ {
		isLocation(t, row(reg(n)), string([]byte{1, 2, byte(n)}))
		isLocation(t, row(num(1), reg(n), add()), string([]byte{3, 1, 1, 2, byte(n), 5}))
	}
	for _, n := range []int64{-1, 16, 17, -16, 31, 63, 64, 255, 256, 1 << 32, 1<<32 + 1, -1 << 32, math.MaxInt64, math.MinInt64} {
		isWrong(t, row(reg(n)))
		isWrong(t, row(num(1), reg(n), add()))
	}
}

func TestStepsWithoutANumber(t *testing.T) {
	for _, n := range []int64{1, -1, 2, 15, 64, 256, 1 << 32, math.MaxInt64, math.MinInt64} {
		isWrong(t, row(num(1), api.Loc{Kind: api.LocWord, N: n}))
		isWrong(t, row(num(1), api.Loc{Kind: api.LocNeg, N: n}))
		isWrong(t, row(num(1), num(2), api.Loc{Kind: api.LocAdd, N: n}))
		isWrong(t, row(num(1), api.Loc{Kind: api.LocNeg, N: n}, neg()))
	}
}

func TestStepsThatTakeMoreThanThereIs(t *testing.T) {
	for _, l := range [][]api.Loc{
		row(word()), row(neg()), row(add()), row(word(), num(1)), row(neg(), num(1)), row(add(), num(1)),
		row(num(1), add()), row(num(1), add(), num(2)), row(num(1), neg(), add()), row(num(1), word(), add()),
		row(add(), num(1), num(2), num(3)), row(num(1), add(), num(2), num(3), add()), row(num(1), num(2), add(), add()), row(num(1), num(2), add(), add(), num(3)),
		row(word(), num(1), num(2), add()), row(neg(), num(1), num(2), add()),
	} {
		isWrong(t, l)
	}
}

func TestWhatIsLeftInTheEnd(t *testing.T) {
	for _, l := range [][]api.Loc{
		row(num(1), num(1)), row(reg(1), base(1)), row(num(1), num(2), neg()), row(num(1), num(2), word()), row(num(1), num(2), num(3), add()),
		times(num(1), 3), times(num(1), mostNumbers), times(num(1), mostSteps), slices.Concat(times(num(1), mostNumbers), times(add(), mostNumbers-2)),
	} {
		isWrong(t, l)
	}
	isLocation(t, row(), "\x00") // none is left where no step is
}

func TestOneWrongStepIsEnough(t *testing.T) {
	full := slices.Concat(times(num(1), mostNumbers), times(add(), mostNumbers-1), row(neg()))
	isLocation(t, full, own(full))
	for i := range full {
		for _, x := range row(api.Loc{}, api.Loc{Kind: 7}, api.Loc{Kind: 255}, reg(16), reg(-1), api.Loc{Kind: full[i].Kind + 6, N: full[i].N}) {
			l := slices.Clone(full)
			l[i] = x
			isWrong(t, l)
		}
	}
}

func TestFewStepsOfEachSort(t *testing.T) {
	sorts := row(num(3), reg(2), base(-1), word(), add(), neg(), api.Loc{}, reg(16), api.Loc{Kind: api.LocAdd, N: 1})
	n := len(sorts)
	for x := range n * n * n * n {
		l := row(sorts[x%n], sorts[x/n%n], sorts[x/n/n%n], sorts[x/n/n/n])
		for size := range len(l) + 1 {
			if expr.Right(l[:size]) != isRight(l[:size]) {
				t.Errorf("Right(%v): %v", l[:size], expr.Right(l[:size]))
			}
			isAsTheWordsSay(t, l[:size], chapters())
		}
		isRightAsTheWordsSay(t, l)
	}
}

// P6.2

func TestPlacesThatThereAreNot(t *testing.T) {
	for _, b := range []string{"", "\x00", "\x01\x02\x02", "\x04\x01\x07\x06\x02\x02\x05"} {
		for _, at := range []int{-1, -2, math.MinInt, -1 << 32, len(b) + 1, len(b) + 2, len(b) + 1<<32, math.MaxInt} {
			isNotGot(t, b, at, api.ErrArg)
		}
		isNotGot(t, b, len(b), api.ErrForm)
	}
	isGot(t, "\x00", 0, nil, 1)
	isGot(t, "\xff\x00", 1, nil, 2)
}

func TestBytesAheadAndBehind(t *testing.T) {
	for _, ahead := range []string{"", "\x00", "\x01", "\xff", "\x80", "\x01\x02\x02", "\x10\x01\x01"} {
		for _, behind := range []string{"", "\x00", "\x01", "\x05", "\x06", "\x7f", "\x80", "\xff", "\x01\x02\x02"} {
			isGot(t, ahead+"\x00"+behind, len(ahead), nil, len(ahead)+1)
			isGot(t, ahead+"\x01\x02\x02"+behind, len(ahead), row(reg(2)), len(ahead)+3)
			isGot(t, ahead+"\x02\x03\x7d\x04"+behind, len(ahead), row(base(-3), word()), len(ahead)+4)
		}
	}
	isGot(t, "\x01\x02\x02\x00\x02\x03\x7d\x04", 3, nil, 4)
	isGot(t, "\x01\x02\x02\x00\x02\x03\x7d\x04", 4, row(base(-3), word()), 8)
}

// Each beginning of a location's bytes is none, wherever it is cut: in a count, ahead of a kind, ahead of a number, in the middle of one.
func TestBytesThatAreCutOff(t *testing.T) {
	for _, l := range [][]api.Loc{
		nil, row(num(300)), row(num(math.MinInt64)), row(base(math.MaxInt64)), row(reg(7)), row(base(1<<20), word(), neg()), row(reg(1), num(-65), add(), word()),
		slices.Concat(times(num(-1000), mostNumbers), times(add(), mostNumbers-1), row(word())),
	} {
		b := own(l)
		isGot(t, b, 0, l, len(b))
		for size := range len(b) {
			for _, ahead := range []string{"", "\x00", "\x80\x80"} {
				isNotGot(t, ahead+b[:size], len(ahead), api.ErrForm)
				whole := []byte(ahead + b) // the room behind the end holds the rest: it does not count
				if l, next, e := expr.Get(whole[:len(ahead)+size], len(ahead)); len(l) != 0 || next != 0 || e != api.ErrForm {
					t.Errorf("Get of %d bytes of %x: %v, %d, error %d", size, b, l, next, e)
				}
			}
		}
	}
	isNotGot(t, "\x80", 0, api.ErrForm)
	isNotGot(t, "\x02\x01\x01", 0, api.ErrForm)
}

func TestNumbersThatDoNotStandThere(t *testing.T) {
	nine, full := strings.Repeat("\x80", 9), strings.Repeat("\xff", 9)
	for _, b := range []string{
		"\x80\x00", "\x81\x00\x01\x01", "\x80\x80\x00", "\x81\x80\x00\x02\x02", nine + "\x00", nine + "\x02", nine + "\x80\x00", // counts
		"\x01\x01\x80\x00", "\x01\x01\x81\x00", "\x01\x01\xff\x7f", "\x01\x01\x85\x80\x00", "\x01\x03\x80\x00", "\x01\x03\xc0\x7f", "\x01\x02\x82\x00", // not their own bytes
		"\x01\x01" + nine + "\x00", "\x01\x01" + full + "\x7f", "\x01\x01" + nine + "\x01", "\x01\x03" + nine + "\x3f", // likewise, or beyond 64 bits
		"\x01\x01" + nine + "\x80\x00", "\x01\x03" + full + "\xff\x7f", "\x01\x03" + full + "\xff\x00", "\x01\x02" + nine + "\x80\x00", // too long
		"\x02\x01\x05\x01\x80\x00", "\x03\x01\x05\x01\x80\x00\x05", "\x04\x01\x07\x06\x02\x82\x00\x05",
	} {
		for _, behind := range []string{"", "\x00", "\x05", "\x01\x01\x01\x05"} {
			isNotGot(t, b+behind, 0, api.ErrForm)
			isNotGot(t, "\x00"+b+behind, 1, api.ErrForm)
		}
	}
}

func TestCountsThatAreTooGreat(t *testing.T) {
	sixteen := "\x01\x01" + strings.Repeat("\x06", mostSteps-1)
	isGot(t, "\x10"+sixteen, 0, append(row(num(1)), times(neg(), mostSteps-1)...), 18)
	isNotGot(t, "\x11"+sixteen+"\x06", 0, api.ErrForm)
	isNotGot(t, "\x12"+sixteen+"\x06\x06", 0, api.ErrForm)
	isNotGot(t, "\x7f"+sixteen+strings.Repeat("\x06", 111), 0, api.ErrForm)
	isNotGot(t, "\x80\x02"+sixteen+strings.Repeat("\x06", 240), 0, api.ErrForm)
	isNotGot(t, "\x90\x02"+sixteen+strings.Repeat("\x06", 256), 0, api.ErrForm)
	for _, many := range []uint64{17, 128, 256, 257, 272, 1 << 16, 1<<16 + 1, 1 << 31, 1 << 32, 1<<32 + 1, 1<<63 - 1, 1 << 63, 1<<63 + 1, math.MaxUint64, math.MaxUint64 - 15} {
		count := string(leb.PutU(nil, many))
		for _, behind := range []string{"", "\x01\x01", "\x02\x02", sixteen, sixteen + strings.Repeat("\x06", 300)} {
			isNotGot(t, count+behind, 0, api.ErrForm)
		}
	}
}

func TestBytesOfWhatIsNotRight(t *testing.T) {
	for _, b := range []string{
		"\x01\x00", "\x01\x07", "\x01\xff", "\x01\x00\x00", "\x01\x07\x00", "\x01\xff\x01", "\x02\x01\x01\x00", "\x02\x01\x01\x07", "\x02\x01\x01\xff",
		"\x01\x02\x10", "\x01\x02\x7f", "\x01\x02\x8f\x01", "\x01\x02\xff\x00", "\x01\x02\x80\x02",
		"\x01\x04", "\x01\x05", "\x01\x06", "\x02\x01\x01\x05", "\x02\x04\x01\x01", "\x03\x01\x01\x05\x01\x01", "\x04\x01\x01\x01\x02\x05\x05",
		"\x02\x01\x01\x01\x01", "\x03\x01\x01\x01\x02\x06", "\x02\x02\x01\x03\x01", "\x08" + strings.Repeat("\x01\x01", 8), "\x10" + strings.Repeat("\x01\x01", 16),
		"\x11" + strings.Repeat("\x01\x01", 9) + strings.Repeat("\x05", 8), "\x10" + strings.Repeat("\x01\x01", 9) + strings.Repeat("\x05", 7),
	} {
		isNotGot(t, b, 0, api.ErrForm)
		isNotGot(t, b+"\x00", 0, api.ErrForm)
		isNotGot(t, "\x01"+b+"\xff", 1, api.ErrForm)
		isGotAsTheWordsSay(t, b)
	}
	for kind := range 256 {
		isGotAsTheWordsSay(t, string([]byte{1, byte(kind), 3, 0}))
		isGotAsTheWordsSay(t, string([]byte{2, 1, 1, byte(kind), 3, 0}))
	}
}

func TestGetOfFewBytes(t *testing.T) {
	for x := range 1 << 16 {
		b := string([]byte{byte(x >> 8), byte(x)})
		for _, behind := range []string{"", "\x00", "\x01\x05", "\x7f\x04"} {
			isGotAsTheWordsSay(t, b+behind)
		}
		isGotAsTheWordsSay(t, "\x02"+b+"\x04")
	}
}

func TestGetOfBytesThatLookThrown(t *testing.T) {
	signs := []byte{0, 1, 2, 3, 4, 5, 6, 7, 15, 16, 17, 127, 128, 255}
	next := dice(6)
	for range 20000 {
		b := make([]byte, 1+next(24))
		for i := range b {
			b[i] = byte(next(256))
			if next(3) > 0 {
				b[i] = signs[next(len(signs))]
			}
		}
		isGotAsTheWordsSay(t, string(b))
	}
}

// Bytes of right locations, of which a few are others, or fewer, or more.
func TestGetOfBytesThatAreNearlyRight(t *testing.T) {
	next := dice(7)
	right := 0
	for range 20000 {
		b := []byte(own(thrown(next, next(12))))
		for range next(3) {
			switch at := next(len(b)); next(3) {
			case 0:
				b[at] = byte(next(256))
			case 1:
				b = slices.Insert(b, at, byte(next(8)))
			case 2:
				b = append(slices.Delete(b, at, at+1), byte(next(8)))
			}
		}
		isGotAsTheWordsSay(t, string(b))
		if _, _, e := expr.Get(b, 0); e == api.OK {
			right++
		}
	}
	if right < 5000 || right > 19000 {
		t.Errorf("%d of 20000 were locations: not both sorts were tried", right)
	}
}

// What follows of P6.1 and P6.2

func TestWhatIsPutIsGot(t *testing.T) {
	next := dice(8)
	sizes := map[int]int{}
	for range 4000 {
		l := thrown(next, next(mostSteps+1))
		sizes[len(l)]++
		isLocation(t, l, own(l))
	}
	for size := range mostSteps + 1 {
		if sizes[size] == 0 {
			t.Errorf("none of %d steps was tried", size)
		}
	}
}

func TestLocationsOneBehindTheOther(t *testing.T) {
	next := dice(9)
	var b []byte
	var all [][]api.Loc
	var ends []int
	for range 500 {
		l := thrown(next, next(10))
		var e api.Errno
		if b, e = expr.Put(b, l); e != api.OK {
			t.Fatalf("Put of %v: error %d", l, e)
		}
		all, ends = append(all, l), append(ends, len(b))
	}
	at := 0
	for i, l := range all {
		isGot(t, string(b), at, l, ends[i])
		at = ends[i]
	}
}

func TestWrongStepsAmongRightOnes(t *testing.T) {
	next := dice(10)
	right := 0
	for range 20000 {
		l := thrown(next, 1+next(mostSteps))
		switch at := next(len(l)); next(4) {
		case 0:
			l[at].Kind = uint8(next(8))
		case 1:
			l[at].N = thrownNumber(next)
		case 2:
			l = slices.Delete(l, at, at+1)
		case 3:
			l = slices.Insert(l, at, api.Loc{Kind: uint8(1 + next(6))})
		}
		isRightAsTheWordsSay(t, l)
		if isRight(l) {
			right++
		}
	}
	if right < 2000 || right > 18000 {
		t.Errorf("%d of 20000 were right: not both sorts were tried", right)
	}
}

// R3

func TestPutLeavesWhatIsHandedIn(t *testing.T) {
	whole := []byte{90, 91, 92, 93, 94, 95, 96, 97, 98, 99}
	steps := row(base(-3), word(), num(7), add(), reg(16))
	kept, keptSteps := slices.Clone(whole), slices.Clone(steps)
	for size := range 4 { // 0 too: an empty list with room behind its end
		for many := range len(steps) + 1 {
			l := steps[:many]
			b, e := expr.Put(whole[:size], l)
			if e == api.OK && string(b) != string(kept[:size])+own(l) {
				t.Errorf("Put of %v behind %d bytes: %x", l, size, b)
			}
			if (e == api.OK) != isRight(l) {
				t.Errorf("Put of %v: error %d", l, e)
			}
			overwrite(b, 0xee)
			expr.Right(l)
			if !slices.Equal(whole, kept) || !slices.Equal(steps, keptSteps) {
				t.Errorf("Put of %v behind %d bytes changed what was handed in, or answers its memory: %x, %v", l, size, whole, steps)
			}
		}
	}
}

func TestGetLeavesWhatIsHandedIn(t *testing.T) {
	whole := []byte("\x02\x03\x7d\x04\x04\x01\x07\x06\x02\x02\x05\x00")
	kept := slices.Clone(whole)
	for size := range len(whole) + 1 {
		for at := -1; at <= size+1; at++ {
			l, _, _ := expr.Get(whole[:size], at)
			overwrite(l, num(9))
			if !slices.Equal(whole, kept) {
				t.Errorf("Get(%d bytes, %d) changed what was handed in: %x", size, at, whole)
			}
		}
	}
}

func TestWhatIsAnsweredIsNewMemory(t *testing.T) {
	begin := append(make([]byte, 0, 64), 1)
	l := row(reg(2), num(-1), add())
	first, _ := expr.Put(begin, l)
	second, _ := expr.Put(begin, row(num(9)))
	empty, _ := expr.Put(nil, nil)
	emptyToo, _ := expr.Put(nil, nil)
	overwrite(second, 0xee)
	overwrite(emptyToo, 0xee)
	overwrite(l, num(4)) // what the caller does with it later
	if string(first) != "\x01\x03\x02\x02\x01\x7f\x05" || string(empty) != "\x00" {
		t.Errorf("Put: an answer turned to %x, %x", first, empty)
	}
	b := []byte("\x03\x02\x02\x01\x7f\x05")
	got, _, _ := expr.Get(b, 0)
	gotToo, _, _ := expr.Get(b, 0)
	overwrite(gotToo, num(4))
	overwrite(b, 0xee)
	if !slices.Equal(got, row(reg(2), num(-1), add())) {
		t.Errorf("Get: an answer turned to %v", got)
	}
}
