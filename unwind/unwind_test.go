package unwind_test

import (
	"math"
	"slices"
	"strings"
	"testing"

	"theodolite/api"
	"theodolite/leb"
	"theodolite/unwind"
)

// chapters is the table of the chapter's example, and its bytes.
func chapters() ([]api.Unwind, string) {
	return table(entry(10, 20, 3, saved(7, -2))), "\x01\x0a\x0a\x03\x01\x07\x02"
}

// chaptersView is the view of the chapter's example.
func chaptersView() api.View {
	v := api.View{Known: make([]bool, 16), Regs: make([]int64, 16)}
	v.Known[15], v.Regs[15] = true, 5
	v.Known[6], v.Regs[6] = true, 1
	for n := range int64(10) {
		v.Words = append(v.Words, n)
	}
	return v
}

func TestExample(t *testing.T) {
	l, b := chapters()
	isTable(t, l, b)
	v := chaptersView()
	isFound(t, l, 12, 0)
	isFrame(t, l, 12, v, 8)
	isUp(t, l, 12, v, 7, with(with(caller(8, v.Words), 6, 1), 7, 6))
	v.Known[0], v.Regs[0] = true, 4
	isUp(t, l, 12, v, 7, with(with(caller(8, v.Words), 6, 1), 7, 6)) // register 0 is not known
}

// P8.1: Right and Put

func TestTablesThatAreRight(t *testing.T) {
	six := []api.Saved{saved(6, -2), saved(7, -3), saved(8, -4), saved(9, -5), saved(10, -6), saved(11, -7)}
	for _, c := range []struct {
		l    []api.Unwind
		want string
	}{
		{nil, "\x00"},
		{[]api.Unwind{}, "\x00"},
		{table(entry(0, 1, 0)), "\x01\x00\x01\x00\x00"},
		{table(api.Unwind{From: 1, To: 2, Regs: []api.Saved{}}), "\x01\x01\x01\x00\x00"},
		{table(entry(127, 254, 127)), "\x01\x7f\x7f\x7f\x00"},
		{table(entry(128, 256, 128, saved(6, -128))), "\x01\x80\x01\x80\x01\x80\x01\x01\x06\x80\x01"},
		{table(entry(0, 1<<24, 65536)), "\x01\x00\x80\x80\x80\x08\x80\x80\x04\x00"},
		{table(entry(1<<24-1, 1<<24, 1)), "\x01\xff\xff\xff\x07\x01\x01\x00"},
		{table(entry(0, 1, 0, saved(11, -65536))), "\x01\x00\x01\x00\x01\x0b\x80\x80\x04"},
		{table(entry(0, 1, 9, six...)), "\x01\x00\x01\x09\x06\x06\x02\x07\x03\x08\x04\x09\x05\x0a\x06\x0b\x07"},
		{table(entry(0, 1, 9, saved(6, -7), saved(9, -7), saved(11, -300))), "\x01\x00\x01\x09\x03\x06\x07\x09\x07\x0b\xac\x02"},
		{table(entry(0, 1, 1), entry(1, 2, 2)), "\x02\x00\x01\x01\x00\x00\x01\x02\x00"},
		{table(entry(0, 1, 1), entry(2, 3, 2)), "\x02\x00\x01\x01\x00\x01\x01\x02\x00"},
		{table(entry(0, 1, 1), entry(1<<24-1, 1<<24, 0)), "\x02\x00\x01\x01\x00\xfe\xff\xff\x07\x01\x00\x00"},
		{table(entry(300, 600, 3, saved(7, -2)), entry(600, 601, 0), entry(700, 1000, 300, saved(8, -2))), "\x03\xac\x02\xac\x02\x03\x01\x07\x02\x00\x01\x00\x00\x63\xac\x02\xac\x02\x01\x08\x02"},
	} {
		isTable(t, c.l, c.want)
	}
}

func TestHowManyEntriesThereMayBe(t *testing.T) {
	for _, many := range []int{1, 2, 127, 128, 129, mostEntries - 1, mostEntries} {
		isTable(t, tableOf(many), own(tableOf(many)))
	}
	for _, many := range []int{mostEntries + 1, mostEntries + 2, 2 * mostEntries, 1<<13 + mostEntries, 1<<16 + 1} {
		isWrong(t, tableOf(many))
	}
	isWrong(t, make([]api.Unwind, mostEntries+1))
	isWrong(t, make([]api.Unwind, 1<<20))
	if b, e := unwind.Put(nil, tableOf(mostEntries)); !strings.HasPrefix(string(b), "\xa0\x1f\x00\x01\x00\x01\x06\x02\x01\x01\x01\x01\x07\x02") || e != api.OK {
		t.Errorf("Put of %d entries: %x, error %d", mostEntries, some(b), e)
	}
}

func TestWhereAnEntryMayBegin(t *testing.T) {
	for _, from := range []int{-1, -2, -5, -1 << 24, -1 << 32, math.MinInt} {
		isWrong(t, table(entry(from, 3, 1)))
		isWrong(t, table(entry(from, from+1, 1)))
		isWrong(t, table(entry(from, 3, 1), entry(3, 5, 1)))
		isWrong(t, table(entry(3, 5, 1), entry(from, 9, 1)))
		isWrong(t, table(entry(3, 5, 1), entry(5, 9, 1), entry(from, 12, 1)))
	}
	isTable(t, table(entry(0, 3, 1)), "\x01\x00\x03\x01\x00")
}

func TestWhereTheOneAheadEnds(t *testing.T) {
	for from := range 20 {
		two := table(entry(3, 9, 1), entry(from, 20, 2))
		among := table(entry(0, 1, 3), two[0], two[1], entry(20, 21, 3))
		if from < 9 {
			isWrong(t, two)
			isWrong(t, among)
			continue
		}
		isTable(t, two, "\x02\x03\x06\x01\x00"+string([]byte{byte(from - 9), byte(20 - from)})+"\x02\x00")
		isTable(t, among, own(among))
	}
	// It is the one just ahead that counts, and each of them.
	isWrong(t, table(entry(3, 5, 1), entry(7, 9, 1), entry(6, 7, 1)))
	isWrong(t, table(entry(3, 5, 1), entry(7, 9, 1), entry(5, 7, 1)))
	isWrong(t, table(entry(7, 9, 1), entry(3, 5, 1)))
	isWrong(t, table(entry(3, 5, 1), entry(3, 5, 1)))
	isWrong(t, table(entry(0, 1<<24, 1), entry(0, 1<<24, 1)))
}

func TestWhereAnEntryMayEnd(t *testing.T) {
	for _, from := range []int{0, 1, 5, 200, 1<<24 - 1} {
		for _, to := range []int{from - 1, from, from - 100, 0, -1, math.MinInt, math.MinInt + from} {
			if to > from {
				continue
			}
			isWrong(t, table(entry(from, to, 1)))
			isWrong(t, table(entry(from, to, 1), entry(from, from+1, 1)))
		}
		isTable(t, table(entry(from, from+1, 1)), own(table(entry(from, from+1, 1))))
	}
	for _, to := range []int{mostPlace + 1, mostPlace + 2, 1 << 25, 1 << 31, 1 << 32, 1<<32 + 4, 1 << 48, math.MaxInt - 1, math.MaxInt} {
		isWrong(t, table(entry(3, to, 1)))
		isWrong(t, table(entry(0, 3, 1), entry(3, to, 1)))
		isWrong(t, table(entry(to-1, to, 1)))
		isWrong(t, table(entry(mostPlace, to, 1)))
		isWrong(t, table(entry(math.MinInt, to, 1)))
	}
	isWrong(t, table(entry(mostPlace, mostPlace, 1)))
	isWrong(t, table(entry(math.MaxInt, math.MinInt, 1)))
	isWrong(t, table(entry(0, mostPlace, 1), entry(mostPlace, mostPlace+1, 1)))
	isTable(t, table(entry(mostPlace-2, mostPlace-1, 1), entry(mostPlace-1, mostPlace, 1)), "\x02\xfe\xff\xff\x07\x01\x01\x00\x00\x01\x01\x00")
}

func TestHowFarUpTheBaseMayBe(t *testing.T) {
	for _, up := range []int64{0, 1, 2, 127, 128, 65534, 65535, 65536} {
		isTable(t, table(entry(3, 5, up)), "\x01\x03\x02"+put(uint64(up))+"\x00")
		isTable(t, table(entry(3, 5, up, saved(7, -2)), entry(5, 6, up)), "\x02\x03\x02"+put(uint64(up))+"\x01\x07\x02\x00\x01"+put(uint64(up))+"\x00")
	}
	for _, up := range []int64{-1, -2, -65536, math.MinInt64, math.MinInt64 + 1, 65537, 65538, 1 << 17, 1 << 32, 1<<32 + 3, math.MaxInt64} {
		isWrong(t, table(entry(3, 5, up)))
		isWrong(t, table(entry(3, 5, up, saved(7, -2))))
		isWrong(t, table(entry(3, 5, 1), entry(5, 6, up)))
		isWrong(t, table(entry(3, 5, up), entry(5, 6, 1)))
	}
}

func TestWhichRegistersMayBeSaved(t *testing.T) {
	for _, k := range []int{6, 7, 8, 9, 10, 11} {
		isTable(t, table(entry(3, 5, 1, saved(k, -2))), "\x01\x03\x02\x01\x01"+string([]byte{byte(k), 2}))
	}
	for _, k := range []int{5, 12, 0, 1, 4, 13, 15, 16, -1, -6, -7, 255, 256, 256 + 7, 1<<32 + 7, -256 + 7, math.MinInt, math.MaxInt} {
		isWrong(t, table(entry(3, 5, 1, saved(k, -2))))
		isWrong(t, table(entry(3, 5, 1, saved(k, -2), saved(9, -3))))
		isWrong(t, table(entry(3, 5, 1, saved(9, -3), saved(k, -2))))
		isWrong(t, table(entry(3, 5, 1, saved(9, -3)), entry(5, 6, 1, saved(k, -2))))
		isWrong(t, table(entry(3, 5, 1, saved(k, -2)), entry(5, 6, 1, saved(9, -3))))
	}
}

func TestTwoRegistersOfAnEntry(t *testing.T) {
	for first := 4; first <= 13; first++ {
		for second := 4; second <= 13; second++ {
			l := table(entry(3, 5, 1, saved(first, -2), saved(second, -3)))
			if 6 <= first && first < second && second <= 11 {
				isTable(t, l, "\x01\x03\x02\x01\x02"+string([]byte{byte(first), 2, byte(second), 3}))
			} else {
				isWrong(t, l)
			}
		}
	}
	isTable(t, table(entry(3, 5, 1, saved(11, -2)), entry(5, 6, 1, saved(6, -2))), "\x02\x03\x02\x01\x01\x0b\x02\x00\x01\x01\x01\x06\x02") // each entry begins anew
	isWrong(t, table(entry(3, 5, 1, saved(6, -2), saved(8, -3), saved(8, -4))))
	isWrong(t, table(entry(3, 5, 1, saved(6, -2), saved(9, -3), saved(8, -4)))) // it is the one just ahead that counts
	isWrong(t, table(entry(3, 5, 1, saved(6, -2), saved(9, -3), saved(7, -4), saved(8, -5))))
	seven := []api.Saved{saved(6, -2), saved(7, -3), saved(8, -4), saved(9, -5), saved(10, -6), saved(11, -7), saved(11, -8)}
	isTable(t, table(entry(3, 5, 1, seven[:6]...)), own(table(entry(3, 5, 1, seven[:6]...))))
	isWrong(t, table(entry(3, 5, 1, seven...)))
	seven[6].Reg = 12
	isWrong(t, table(entry(3, 5, 1, seven...)))
	isWrong(t, table(entry(3, 5, 1, make([]api.Saved, 1<<16)...)))
}

func TestWhereARegisterMayLie(t *testing.T) {
	for _, at := range []int64{-2, -3, -127, -128, -300, -65534, -65535, -65536} {
		isTable(t, table(entry(3, 5, 1, saved(8, at))), "\x01\x03\x02\x01\x01\x08"+put(uint64(-at)))
		isTable(t, table(entry(3, 5, 1, saved(8, at), saved(9, at))), "\x01\x03\x02\x01\x02\x08"+put(uint64(-at))+"\x09"+put(uint64(-at))) // two may lie in one word
	}
	for _, at := range []int64{-1, 0, 1, 2, 3, 65536, 1 << 32, 1<<32 - 2, math.MaxInt64, -65537, -65538, -1 << 17, -1 << 32, -1<<32 - 2, math.MinInt64, math.MinInt64 + 1} {
		isWrong(t, table(entry(3, 5, 1, saved(8, at))))
		isWrong(t, table(entry(3, 5, 1, saved(8, at), saved(9, -2))))
		isWrong(t, table(entry(3, 5, 1, saved(8, -2), saved(9, at))))
		isWrong(t, table(entry(3, 5, 1, saved(8, -2)), entry(5, 6, 1, saved(8, at))))
	}
}

func TestOneWrongEntryIsEnough(t *testing.T) {
	l := table(entry(0, 3, 1), entry(3, 5, 2, saved(6, -2)), entry(7, 9, 3, saved(7, -3), saved(8, -4)), entry(9, 10, 4), entry(12, 20, 5, saved(11, -2)))
	isTable(t, l, own(l))
	for i, u := range l {
		for _, x := range table(
			entry(-1, u.To, 1), entry(u.From, u.From, 1), entry(u.To, u.From, 1), entry(u.From, u.To, -1), entry(u.From, u.To, mostUp+1),
			entry(u.From, mostPlace+1, 1), entry(u.From, math.MaxInt, 1), entry(math.MinInt, u.To, 1), api.Unwind{},
			entry(u.From, u.To, 1, saved(5, -2)), entry(u.From, u.To, 1, saved(6, -1)), entry(u.From, u.To, 1, saved(7, -2), saved(7, -3)), entry(u.From, u.To, 1, api.Saved{}),
		) {
			c := slices.Clone(l)
			c[i] = x
			isWrong(t, c)
		}
	}
	for _, i := range []int{0, 1, mostEntries / 2, mostEntries - 1} {
		for _, x := range table(entry(2*i, 2*i, 1), entry(2*i, 2*i+1, -1), entry(2*i, 2*i+1, 1, saved(12, -2)), entry(2*i, 2*i+1, 1, saved(6, -1))) {
			c := tableOf(mostEntries)
			c[i] = x
			isWrong(t, c)
		}
	}
}

func TestFewEntriesOfEachSort(t *testing.T) {
	sorts := table(
		entry(0, 3, 0), entry(3, 5, mostUp), entry(4, 6, 1, saved(6, -2)), entry(6, 6, 1), entry(7, 6, 1), entry(5, 9, -1), entry(5, 9, 2, saved(7, -2), saved(11, -9)),
		entry(6, 9, 1, saved(7, -2), saved(6, -3)), entry(-1, 1, 1), entry(9, mostPlace, 1, saved(6, -mostBelow)), entry(9, mostPlace+1, 1), entry(9, 10, mostUp+1), entry(9, 10, 1, saved(7, -1)),
	)
	n := len(sorts)
	for x := range n * n * n {
		l := table(sorts[x%n], sorts[x/n%n], sorts[x/n/n])
		for size := range len(l) + 1 {
			isRightAsTheWordsSay(t, l[:size])
		}
	}
}

func TestWrongEntriesAmongRightOnes(t *testing.T) {
	next := dice(21)
	ends := []int{-1, 0, 1, 40, 300, mostPlace, math.MaxInt, math.MinInt}
	numbers := []int64{-mostBelow - 1, -mostBelow, -2, -1, 0, 1, mostUp, mostUp + 1, math.MaxInt64, math.MinInt64}
	right := 0
	for range 8000 {
		l := thrown(next, 1+next(8), 30)
		u := &l[next(len(l))]
		switch next(8) {
		case 0:
			u.From += next(9) - 4
		case 1:
			u.To += next(9) - 4
		case 2:
			u.From = ends[next(len(ends))]
		case 3:
			u.To = ends[next(len(ends))] + next(3) - 1
		case 4:
			u.Up = numbers[next(len(numbers))]
		case 5:
			u.Regs = append(u.Regs, saved(5+next(8), numbers[next(len(numbers))]))
		case 6:
			if len(u.Regs) > 0 {
				u.Regs[next(len(u.Regs))].Reg = 5 + next(8)
			}
		case 7:
			if len(u.Regs) > 0 {
				u.Regs[next(len(u.Regs))].At = numbers[next(len(numbers))]
			}
		}
		isRightAsTheWordsSay(t, l)
		if isRight(l) {
			right++
		}
	}
	if right < 1000 || right > 7000 {
		t.Errorf("%d of 8000 were right: not both sorts were tried", right)
	}
}

// P8.1: Get

// put is a number's bytes.
func put(x uint64) string { return string(leb.PutU(nil, x)) }

func TestPlacesThatThereAreNot(t *testing.T) {
	_, example := chapters()
	for _, b := range []string{"", "\x00", "\x01\x00\x01\x01\x00", example} {
		for _, at := range []int{-1, -2, math.MinInt, -1 << 32, len(b) + 1, len(b) + 2, len(b) + 1<<32, math.MaxInt} {
			isNotGot(t, b, at, api.ErrArg)
		}
		isNotGot(t, b, len(b), api.ErrForm)
	}
	isGot(t, "\x00", 0, nil, 1)
	isGot(t, "\xff\x00", 1, nil, 2)
}

func TestBytesAheadAndBehind(t *testing.T) {
	l, b := chapters()
	for _, ahead := range []string{"", "\x00", "\x01", "\xff", "\x80", "\x01\x0a\x0a", "\x01\x0a\x0a\x03\x01\x07"} {
		for _, behind := range []string{"", "\x00", "\x01", "\x08\x02", "\x7f", "\x80", "\xff", "\x00\x04\x01\x00"} {
			isGot(t, ahead+"\x00"+behind, len(ahead), nil, len(ahead)+1)
			isGot(t, ahead+b+behind, len(ahead), l, len(ahead+b))
			isGot(t, ahead+"\x01\x0a\x0a\x03\x00"+behind, len(ahead), table(entry(10, 20, 3)), len(ahead)+5)
		}
	}
	isGot(t, "\x01\x0a\x0a\x03\x00\x00\x01\x00\x01\x00\x00", 5, nil, 6)
	isGot(t, "\x01\x0a\x0a\x03\x00\x00\x01\x00\x01\x00\x00", 6, table(entry(0, 1, 0)), 11)
}

// Each beginning of a table's bytes is none, wherever it is cut: in the count, in the middle of each number, between two, at a register, between two entries.
func TestBytesThatAreCutOff(t *testing.T) {
	example, _ := chapters()
	for _, l := range [][]api.Unwind{
		nil, example, table(entry(300, 600, 300)), table(entry(mostPlace-1, mostPlace, mostUp, saved(6, -mostBelow), saved(11, -mostBelow))), table(entry(0, mostPlace, 200, saved(8, -300))),
		table(entry(1000, 2000, 1000, saved(6, -1000), saved(7, -2)), entry(3000, 4000, 0), entry(4000, 9000, 300, saved(9, -2), saved(10, -200), saved(11, -3))), tableOf(200),
	} {
		b := own(l)
		isGot(t, b, 0, l, len(b))
		for size := range len(b) {
			for _, ahead := range []string{"", "\x00", "\x80\x80"} {
				isNotGot(t, ahead+b[:size], len(ahead), api.ErrForm)
				whole := []byte(ahead + b) // the room behind the end holds the rest: it does not count
				if l, next, e := unwind.Get(whole[:len(ahead)+size], len(ahead)); len(l) != 0 || next != 0 || e != api.ErrForm {
					t.Errorf("Get of %d bytes of %x: %v, %d, error %d", size, some(b), few(l), next, e)
				}
			}
		}
	}
	isNotGot(t, own(tableOf(mostEntries))[:5*mostEntries], 0, api.ErrForm)
}

func TestNumbersThatDoNotStandThere(t *testing.T) {
	nine, full := strings.Repeat("\x80", 9), strings.Repeat("\xff", 9)
	for _, x := range []string{"\x80\x00", "\x81\x00", "\x83\x80\x00", "\xff\x80\x80\x00", nine + "\x00", full + "\x00", nine + "\x02", full + "\x7f", nine + "\x80\x00", full + "\xff\x01", full + "\xff"} {
		for _, b := range []string{
			x, x + "\x0a\x0a\x03\x01\x07\x02", "\x01" + x, "\x01" + x + "\x0a\x03\x01\x07\x02", "\x01\x0a" + x, "\x01\x0a" + x + "\x03\x01\x07\x02", "\x01\x0a\x0a" + x, "\x01\x0a\x0a" + x + "\x01\x07\x02",
			"\x01\x0a\x0a\x03" + x, "\x01\x0a\x0a\x03" + x + "\x07\x02", "\x01\x0a\x0a\x03\x01\x07" + x, "\x01\x0a\x0a\x03\x02\x07" + x + "\x08\x02", "\x02\x0a\x0a\x03\x00" + x + "\x01\x01\x00", "\x02\x0a\x0a\x03\x01\x07\x02\x00\x01\x03\x01\x07" + x,
		} {
			for _, behind := range []string{"", "\x00", "\x01\x07\x02", "\x01\x0a\x0a\x03\x01\x07\x02"} {
				isNotGot(t, b+behind, 0, api.ErrForm)
				isNotGot(t, "\x00"+b+behind, 1, api.ErrForm)
			}
		}
	}
	isNotGot(t, "\x01\x0a\x0a\x03\x01\x87\x00\x02", 0, api.ErrForm) // a register is one byte, no number
	isNotGot(t, "\x01\x0a\x0a\x03\x01\x87\x02", 0, api.ErrForm)
}

// What a number that is too great comes to may be a place again, if sums of 32 or 64 bits go round.
func TestPlacesThatAreTooGreat(t *testing.T) {
	two := func(gap, long uint64) string {
		return "\x02\x05\x05\x01\x00" + put(gap) + put(long) + "\x02\x00"
	}
	isGot(t, two(0, mostPlace-10), 0, table(entry(5, 10, 1), entry(10, mostPlace, 2)), 12)
	isGot(t, two(mostPlace-11, 1), 0, table(entry(5, 10, 1), entry(mostPlace-1, mostPlace, 2)), 12)
	for _, x := range []uint64{1 << 32, 1 << 33, 1 << 63, 0} {
		for back := range uint64(25) {
			for _, small := range []uint64{0, 1, 2, 9, 20, x - back} {
				if x-back > mostPlace {
					isNotGot(t, two(x-back, small), 0, api.ErrForm)
					isNotGot(t, two(small, x-back), 0, api.ErrForm)
				}
				isNotGot(t, two(x+back+mostPlace, small), 0, api.ErrForm)
				isNotGot(t, two(small, x+back+mostPlace), 0, api.ErrForm)
			}
		}
	}
	for _, x := range []uint64{mostPlace - 9, mostPlace - 8, mostPlace, mostPlace + 1, 1 << 25, 1 << 31, 1<<63 - 1, 1 << 63, math.MaxUint64} {
		isNotGot(t, two(0, x), 0, api.ErrForm)
		isNotGot(t, two(x, 1), 0, api.ErrForm)
	}
	for _, x := range []uint64{mostPlace + 1, mostPlace + 2, 1 << 25, 1 << 31, 1 << 32, 1<<32 + 3, 1<<63 - 1, 1 << 63, math.MaxUint64 - 1, math.MaxUint64} {
		isNotGot(t, "\x01"+put(x-1)+"\x01\x01\x00", 0, api.ErrForm)
		isNotGot(t, "\x01\x00"+put(x)+"\x01\x00", 0, api.ErrForm)
		isNotGot(t, "\x01\x03"+put(x-3)+"\x01\x00", 0, api.ErrForm)
	}
	isNotGot(t, "\x01"+put(mostPlace)+"\x00\x01\x00", 0, api.ErrForm)
	isNotGot(t, "\x01"+put(mostPlace)+"\x01\x01\x00", 0, api.ErrForm)
	isNotGot(t, "\x02"+strings.Repeat("\x00"+put(mostPlace)+"\x01\x00", 2), 0, api.ErrForm)
}

func TestOtherNumbersThatAreTooGreat(t *testing.T) {
	isGot(t, "\x01\x03\x02"+put(mostUp)+"\x00", 0, table(entry(3, 5, mostUp)), 7)
	isGot(t, "\x01\x03\x02\x01\x01\x07"+put(mostBelow), 0, table(entry(3, 5, 1, saved(7, -mostBelow))), 9)
	for _, x := range []uint64{mostUp + 1, mostUp + 2, 1 << 17, 1 << 24, 1 << 32, 1<<32 + 1, 1<<32 + 2, 1<<32 + mostUp, 1<<63 - 2, 1<<63 - 1, 1 << 63, 1<<63 + 2, math.MaxUint64 - mostUp, math.MaxUint64 - 1, math.MaxUint64} {
		isNotGot(t, "\x01\x03\x02"+put(x)+"\x00", 0, api.ErrForm)
		isNotGot(t, "\x01\x03\x02"+put(x)+"\x01\x07\x02", 0, api.ErrForm)
		isNotGot(t, "\x01\x03\x02\x01\x01\x07"+put(x), 0, api.ErrForm)
		isNotGot(t, "\x01\x03\x02\x01\x02\x07"+put(x)+"\x08\x02", 0, api.ErrForm)
	}
	for _, x := range []uint64{0, 1} { // no register lies there
		isNotGot(t, "\x01\x03\x02\x01\x01\x07"+put(x), 0, api.ErrForm)
		isNotGot(t, "\x01\x03\x02\x01\x02\x07\x02\x08"+put(x), 0, api.ErrForm)
	}
}

func TestCountsThatAreTooGreat(t *testing.T) {
	entries := strings.Repeat("\x00\x01\x01\x00", 3*mostEntries)
	if l, next, e := unwind.Get([]byte(put(mostEntries)+entries), 0); len(l) != mostEntries || next != 2+4*mostEntries || e != api.OK || l[mostEntries-1].To != mostEntries {
		t.Errorf("Get of %d entries: %v, %d, error %d", mostEntries, few(l), next, e)
	}
	for _, many := range []uint64{mostEntries + 1, mostEntries + 2, 2 * mostEntries, 3 * mostEntries, 1 << 16, 1<<16 + 1, 1 << 31, 1 << 32, 1<<32 + 1, 1<<63 - 1, 1 << 63, 1<<63 + 1, math.MaxUint64, math.MaxUint64 - mostEntries} {
		for _, behind := range []string{"", "\x00", "\x00\x01\x01\x00", entries} {
			isNotGot(t, put(many)+behind, 0, api.ErrForm)
		}
	}
	isNotGot(t, put(mostEntries)+entries[:4*mostEntries-4], 0, api.ErrForm)
}

func TestCountsOfRegistersThatAreTooGreat(t *testing.T) {
	regs := "\x06\x02\x07\x03\x08\x04\x09\x05\x0a\x06\x0b\x07\x0c\x08\x0d\x09"
	isGot(t, "\x01\x03\x02\x01\x06"+regs, 0, table(entry(3, 5, 1, saved(6, -2), saved(7, -3), saved(8, -4), saved(9, -5), saved(10, -6), saved(11, -7))), 17)
	for _, many := range []uint64{7, 8, 9, 1 << 16, 1 << 31, 1 << 32, 1<<32 + 1, 1<<63 - 1, 1 << 63, 1<<63 + 1, math.MaxUint64} {
		for _, behind := range []string{"", "\x00", "\x06\x02", regs, strings.Repeat("\x06\x02", 9), strings.Repeat("\x0b\x02", 100)} {
			isNotGot(t, "\x01\x03\x02\x01"+put(many)+behind, 0, api.ErrForm)
			isNotGot(t, "\x02\x03\x02\x01\x01\x06\x02\x00\x01\x01"+put(many)+behind, 0, api.ErrForm)
		}
	}
}

func TestBytesOfWhatIsNotRight(t *testing.T) {
	for _, b := range []string{
		"\x01\x0a\x00\x03\x00", "\x01\x00\x00\x03\x00", "\x02\x0a\x0a\x03\x00\x00\x00\x03\x00", "\x02\x0a\x00\x03\x00\x00\x0a\x03\x00", // no places
		"\x01\x0a\x0a\x81\x80\x04\x00", "\x02\x0a\x0a\x81\x80\x04\x00\x00\x01\x01\x00", "\x02\x0a\x0a\x03\x00\x00\x01\x81\x80\x04\x00", // too far up
		"\x01\x0a\x0a\x03\x01\x05\x02", "\x01\x0a\x0a\x03\x01\x0c\x02", "\x01\x0a\x0a\x03\x01\x00\x02", "\x01\x0a\x0a\x03\x01\x0f\x02", "\x01\x0a\x0a\x03\x01\xff\x02", // other registers
		"\x01\x0a\x0a\x03\x02\x07\x02\x07\x03", "\x01\x0a\x0a\x03\x02\x08\x02\x07\x03", "\x01\x0a\x0a\x03\x03\x06\x02\x08\x03\x07\x04", // that do not rise
		"\x01\x0a\x0a\x03\x01\x07\x00", "\x01\x0a\x0a\x03\x01\x07\x01", "\x01\x0a\x0a\x03\x01\x07\x81\x80\x04", // where none lies
		"\x01", "\x02\x0a\x0a\x03\x01\x07\x02", "\x03\x0a\x0a\x03\x00\x00\x01\x01\x00", "\x01\x0a\x0a\x03\x02\x07\x02", // fewer than the count
	} {
		isNotGot(t, b, 0, api.ErrForm)
		isNotGot(t, "\x01"+b, 1, api.ErrForm)
		isGotAsTheWordsSay(t, b)
		isGotAsTheWordsSay(t, b+"\x00\xff")
	}
}

func TestGetOfFewBytes(t *testing.T) {
	for x := range 1 << 16 {
		b := string([]byte{byte(x >> 8), byte(x)})
		isGotAsTheWordsSay(t, b)
		isGotAsTheWordsSay(t, "\x01"+b+"\x01\x00")
		isGotAsTheWordsSay(t, "\x01\x0a\x0a"+b+"\x07\x02\x08\x03")
		isGotAsTheWordsSay(t, "\x01\x0a\x0a\x03\x02"+b+"\x08\x03")
	}
}

func TestGetOfBytesThatLookThrown(t *testing.T) {
	signs := []byte{0, 1, 2, 3, 4, 5, 6, 7, 11, 12, 127, 128, 255}
	next := dice(22)
	for range 20000 {
		b := make([]byte, 1+next(24))
		for i := range b {
			b[i] = byte(next(256))
			if next(4) > 0 {
				b[i] = signs[next(len(signs))]
			}
		}
		isGotAsTheWordsSay(t, string(b))
	}
}

// Bytes of right tables, of which a few are others, or fewer, or more.
func TestGetOfBytesThatAreNearlyRight(t *testing.T) {
	next := dice(23)
	right := 0
	for range 20000 {
		b := []byte(own(thrown(next, next(5), 200)))
		for range next(3) {
			switch at := next(len(b)); next(3) {
			case 0:
				b[at] = byte(next(256))
			case 1:
				b = slices.Insert(b, at, byte(next(8)))
			case 2:
				b = append(slices.Delete(b, at, at+1), byte(next(8)))
			}
		}
		isGotAsTheWordsSay(t, string(b))
		if _, _, e := unwind.Get(b, 0); e == api.OK {
			right++
		}
	}
	if right < 5000 || right > 19000 {
		t.Errorf("%d of 20000 were tables: not both sorts were tried", right)
	}
}

// What follows of P8.1

func TestWhatIsPutIsGot(t *testing.T) {
	next := dice(24)
	sizes := map[int]int{}
	for range 3000 {
		l := thrown(next, next(20), []int{2, 10, 200, 100000}[next(4)])
		sizes[len(l)]++
		isTable(t, l, own(l))
	}
	for size := range 20 {
		if sizes[size] == 0 {
			t.Errorf("none of %d entries was tried", size)
		}
	}
}

func TestTablesOneBehindTheOther(t *testing.T) {
	next := dice(25)
	var b []byte
	var all [][]api.Unwind
	var ends []int
	for range 300 {
		l := thrown(next, next(10), 300)
		var e api.Errno
		if b, e = unwind.Put(b, l); e != api.OK {
			t.Fatalf("Put of %v: error %d", l, e)
		}
		all, ends = append(all, l), append(ends, len(b))
	}
	at := 0
	for i, l := range all {
		isGot(t, string(b), at, l, ends[i])
		at = ends[i]
	}
}
