package lines_test

import (
	"math"
	"slices"
	"strings"
	"testing"

	"theodolite/api"
	"theodolite/leb"
	"theodolite/lines"
)

func TestExamples(t *testing.T) {
	isWritten(t, []api.Row{{Pc: 0, Point: 0}, {Pc: 3, Point: 1}, {Pc: 3 + 300, Point: 0}}, "\x08\x2d\x01\xac\x02\x02\x7f\x03\x00")
	isRead(t, "\x03\x00", api.Row{})
	isNoProgram(t, "\x03\x03\x00")
	isNoProgram(t, "\x01\x80\x00\x00")
	isNoProgram(t, "")
}

// P5.1: what is right

func TestRowsThatAreRight(t *testing.T) {
	for _, c := range []struct {
		l    []api.Row
		want string
	}{
		{nil, "\x00"},
		{[]api.Row{}, "\x00"},
		{table(0, 0), "\x08\x00"},
		{table(0, 7), "\x0f\x00"},
		{table(0, 8), "\x02\x08\x03\x00"},
		{table(0, lastPoint), "\x02\xe7\x07\x03\x00"},
		{table(lastPc, 0), "\x01\xff\xff\xff\x07\x03\x00"},
		{table(lastPc, lastPoint), "\x01\xff\xff\xff\x07\x02\xe7\x07\x03\x00"},
		{table(0, lastPoint, lastPc, 0), "\x02\xe7\x07\x03\x01\xff\xff\xff\x07\x02\x99\x78\x03\x00"},
		{table(0, lastPoint, 1, lastPoint-1, 2, lastPoint), "\x02\xe7\x07\x03\x13\x15\x00"},
		{table(lastPc-1, 4, lastPc, 0), "\x01\xfe\xff\xff\x07\x02\x04\x03\x10\x00"},
		{table(20, 7), "\xff\x00"},
		{table(21, 7), "\x01\x15\x02\x07\x03\x00"},
		{table(5, 2, 6, 2, 7, 2), "\x46\x14\x14\x00"}, // one point as often as it comes
	} {
		isWritten(t, c.l, c.want)
	}
}

func TestRowsThatAreWrong(t *testing.T) {
	for _, r := range []api.Row{
		{Pc: -1}, {Pc: bound}, {Pc: bound + 1}, {Pc: math.MinInt}, {Pc: math.MaxInt}, {Pc: 1 << 32}, {Pc: -1 << 32}, {Pc: -bound},
		{Point: -1}, {Point: api.MaxPoints}, {Point: api.MaxPoints + 1}, {Point: math.MinInt}, {Point: math.MaxInt}, {Point: 1 << 32}, {Point: -1 << 32},
		{Pc: -1, Point: -1}, {Pc: bound, Point: api.MaxPoints}, {Pc: lastPc, Point: api.MaxPoints}, {Pc: bound, Point: lastPoint},
	} {
		isWrong(t, []api.Row{r})
	}
	for _, pc := range []int{-1, 0, 4, 5, 6, 10, bound, math.MinInt, math.MaxInt} {
		isWrong(t, table(5, 1, pc, 1, 6, 1))
		isWrong(t, table(2, 1, 6, 1, 9, 1, pc, 1, 10, 1))
	}
	isWrong(t, table(0, 0, 0, 0))
	isWrong(t, table(0, 0, 0, 1))
	isWrong(t, table(1, 0, 0, 1))
	isWrong(t, table(lastPc, 0, lastPc, 1))
	isWrong(t, table(lastPc, 0, bound, 1))
	isWrong(t, table(1, 1, 2, 2, 3, 3, 4, -1))
	isWrong(t, table(1, 1, 2, api.MaxPoints, 3, 3, 4, 4))
}

func TestHowManyRowsThereMayBe(t *testing.T) {
	isWritten(t, evenly(mostRows-1), "\x08"+strings.Repeat("\x14", mostRows-2)+"\x00")
	isWritten(t, evenly(mostRows), "\x08"+strings.Repeat("\x14", mostRows-1)+"\x00")
	isWrong(t, evenly(mostRows+1))
	isWrong(t, evenly(3*mostRows))
	isWrong(t, make([]api.Row, mostRows+1))
	isNoProgram(t, "\x08"+strings.Repeat("\x14", mostRows)+"\x00")
	isNoProgram(t, "\x08"+strings.Repeat("\x14", 3*mostRows)+"\x00")
	isNoProgram(t, strings.Repeat("\x03", mostRows+1)+"\x00")
}

func TestTheLastRowCountsAsTheOthersDo(t *testing.T) {
	full := evenly(mostRows)
	for _, r := range table(mostRows-2, 0, bound, 0, mostRows, -1, mostRows, api.MaxPoints) {
		full[mostRows-1] = r
		isWrong(t, full)
	}
	full[mostRows-1] = api.Row{Pc: lastPc, Point: lastPoint}
	followsAllThat(t, full)
}

func TestRightAsTheWordsSay(t *testing.T) {
	numbers := []int{math.MinInt, -1, 0, 1, 2, lastPoint, api.MaxPoints, lastPc, bound, math.MaxInt}
	n := len(numbers)
	for x := range n * n * n * n {
		l := table(numbers[x%n], numbers[x/n%n], numbers[x/n/n%n], numbers[x/n/n/n])
		if isRight(l) {
			followsAllThat(t, l)
		} else {
			isWrong(t, l)
		}
	}
}

// P5.1: what is written

// From a row at 1000, point 20, each distance to the next one; and from the beginning.
func TestShortAndLongDistances(t *testing.T) {
	ahead := "\x01\xe8\x07\x02\x14\x03"
	for _, c := range []struct {
		d, e int
		want string
	}{
		{1, -5, "\x01\x01\x02\x7b\x03"}, {1, -4, "\x10"}, {1, 7, "\x1b"}, {1, 8, "\x01\x01\x02\x08\x03"},
		{20, -5, "\x01\x14\x02\x7b\x03"}, {20, -4, "\xf4"}, {20, 7, "\xff"}, {20, 8, "\x01\x14\x02\x08\x03"},
		{21, -5, "\x01\x15\x02\x7b\x03"}, {21, -4, "\x01\x15\x02\x7c\x03"}, {21, 7, "\x01\x15\x02\x07\x03"}, {21, 8, "\x01\x15\x02\x08\x03"},
		{21, 0, "\x01\x15\x03"}, {20, 0, "\xf8"}, {1, 0, "\x14"}, {10, -1, "\x7f"}, {10, 0, "\x80"},
		{127, 0, "\x01\x7f\x03"}, {128, 0, "\x01\x80\x01\x03"}, {1 << 14, 1, "\x01\x80\x80\x01\x02\x01\x03"},
		{2, 63, "\x01\x02\x02\x3f\x03"}, {2, 64, "\x01\x02\x02\xc0\x00\x03"}, {2, -20, "\x01\x02\x02\x6c\x03"},
	} {
		isWritten(t, table(1000, 20, 1000+c.d, 20+c.e), ahead+c.want+"\x00")
	}
	for _, c := range []struct {
		d, e int
		want string
	}{
		{0, 0, "\x08"}, {0, 7, "\x0f"}, {0, 8, "\x02\x08\x03"},
		{20, 0, "\xf8"}, {20, 7, "\xff"}, {20, 8, "\x01\x14\x02\x08\x03"},
		{21, 0, "\x01\x15\x03"}, {21, 7, "\x01\x15\x02\x07\x03"}, {21, 8, "\x01\x15\x02\x08\x03"},
	} {
		isWritten(t, table(c.d, c.e), c.want+"\x00")
	}
}

func TestWritesAsTheWordsSay(t *testing.T) {
	ds := []int{1, 2, 3, 4, 5, 6, 7, 8, 9, 10, 11, 12, 13, 14, 15, 16, 17, 18, 19, 20, 21, 22, 127, 128, 255, 256, 1<<14 - 1, 1 << 14, 1<<21 - 1, 1 << 21, 1 << 23}
	for point := 0; point <= lastPoint; point += 37 {
		for _, d := range ds {
			for e := -80; e <= 80; e++ {
				if point+e >= 0 && point+e <= lastPoint {
					followsAllThat(t, table(3, point, 3+d, point+e))
				}
			}
			followsAllThat(t, table(d, point, d+9, 0, d+30, lastPoint, d+31, 0))
		}
	}
}

// P5.1: what is read

func TestEachShortStep(t *testing.T) {
	for x := 4; x <= 255; x++ {
		k, j := (x-4)/12, (x-4)%12
		isRead(t, u(1000)+s(20)+string([]byte{byte(x), 0}), api.Row{Pc: 1000 + k, Point: 20 + j - 4})
		isReadAsTheWordsSay(t, string([]byte{byte(x), 0}))
	}
	isRead(t, s(10)+"\x04\x00", api.Row{Pc: 0, Point: 6})
	isRead(t, s(10)+"\x0f\x00", api.Row{Pc: 0, Point: 17})
	isRead(t, "\xff\xff\xff\x00", api.Row{Pc: 20, Point: 7}, api.Row{Pc: 40, Point: 14}, api.Row{Pc: 60, Point: 21})
	isRead(t, s(4)+"\xf4\x00", api.Row{Pc: 20, Point: 0})
	isNoProgram(t, s(3)+"\xf4\x00")
	isNoProgram(t, "\x04\x00")
	isNoProgram(t, "\x07\x00")
}

func TestProgramsThatAreNoTablesOwn(t *testing.T) {
	row := api.Row{Pc: 3, Point: 1}
	for _, b := range []string{
		"\x2d\x00",
		u(3) + s(1) + "\x03\x00", s(1) + u(3) + "\x03\x00",
		u(1) + u(2) + s(1) + "\x03\x00", u(0) + u(3) + u(0) + s(0) + s(1) + "\x03\x00",
		s(5) + s(-4) + u(3) + "\x03\x00", s(999) + s(-998) + u(3) + "\x03\x00", s(bound) + s(1-bound) + u(3) + "\x03\x00",
		u(3) + s(5) + "\x04\x00", u(2) + "\x15\x00", s(1) + "\x2c\x00",
		"\x2d" + u(7) + s(9) + "\x00", "\x2d" + u(bound-3) + "\x00", "\x2d" + s(bound-1) + "\x00",
	} {
		isRead(t, b, row)
	}
	isWritten(t, []api.Row{row}, "\x2d\x00")
}

func TestProgramsWithoutRows(t *testing.T) {
	for _, b := range []string{
		"\x00", u(0) + "\x00", s(0) + "\x00", u(5) + "\x00", s(1000) + "\x00", u(bound) + "\x00", s(bound) + "\x00",
		u(bound) + s(bound) + "\x00", u(lastPc) + u(1) + "\x00", s(lastPc) + s(1) + s(-bound) + "\x00", u(bound) + u(0) + s(bound) + s(0) + "\x00",
	} {
		isRead(t, b)
	}
}

func TestStepsOfNought(t *testing.T) {
	isRead(t, "\x01\x00\x03\x00", api.Row{})
	isRead(t, "\x02\x00\x03\x00", api.Row{})
	isRead(t, "\x01\x00\x02\x00\x01\x00\x02\x00\x08\x00", api.Row{})
	isNoProgram(t, "\x03\x01\x00\x03\x00") // the same Pc twice
	isNoProgram(t, "\x03\x02\x01\x03\x00")
	isNoProgram(t, "\x08\x08\x00")
	isNoProgram(t, "\x08\x0f\x00")
}

func TestHowFarPcAndPointGo(t *testing.T) {
	isRead(t, u(lastPc)+"\x03\x00", api.Row{Pc: lastPc})
	isRead(t, u(lastPc-20)+"\xff\x00", api.Row{Pc: lastPc, Point: 7})
	isRead(t, s(lastPoint)+"\x03\x00", api.Row{Point: lastPoint})
	isRead(t, s(lastPoint)+"\x08\x00", api.Row{Point: lastPoint})
	isRead(t, s(lastPoint+4)+"\x04\x00", api.Row{Point: lastPoint})
	isRead(t, s(lastPoint-7)+"\x0f\x00", api.Row{Point: lastPoint})
	isRead(t, u(7)+s(bound)+s(-bound)+"\x03"+u(1)+s(bound)+s(2-bound)+"\x03\x00", api.Row{Pc: 7}, api.Row{Pc: 8, Point: 2})
	for _, b := range []string{
		u(bound) + "\x03", u(lastPc) + "\x14", u(lastPc-19) + "\xff", s(lastPoint+1) + "\x03", s(lastPoint+5) + "\x04", s(lastPoint-6) + "\x0f", s(bound) + "\x03", s(bound) + "\x0f", u(bound) + "\x14", // rows that are not right
		u(bound + 1), u(bound) + u(1), u(1) + u(bound), u(2) + u(lastPc), u(1 << 32), u(1 << 63), u(1<<63 - 1), u(math.MaxUint64), u(1) + u(math.MaxUint64), u(bound) + u(math.MaxUint64), u(5) + u(math.MaxUint64-4), u(1<<63) + u(1<<63),
		s(bound + 1), s(bound) + s(1), s(1) + s(bound), s(-1), s(3) + s(-4), s(1) + s(-1) + s(-1), s(-bound), s(-bound - 1), s(1) + s(-bound), s(1 << 32), s(-1 << 32), s(5) + s(-1<<32),
		s(math.MaxInt64), s(math.MinInt64), s(1) + s(math.MaxInt64), s(bound) + s(math.MaxInt64), s(bound) + s(math.MinInt64), s(1) + s(math.MinInt64), s(math.MinInt64) + s(math.MinInt64), s(math.MaxInt64) + s(math.MaxInt64) + s(2),
		s(-1) + s(1), s(bound+1) + s(-bound), s(-4) + s(9), "\x08" + s(-1) + s(2) + u(3) + "\x03", u(bound+1) + s(1),
	} {
		isNoProgram(t, b+"\x00")
	}
}

func TestNumbersThatDoNotStandThere(t *testing.T) {
	nine := strings.Repeat("\x80", 9)
	full := strings.Repeat("\xff", 9)
	for _, b := range []string{
		"\x01", "\x02", "\x01\x80", "\x02\x80", "\x01\xff\xff", "\x02\xff\xff", "\x01" + nine, "\x02" + nine, // cut off
		"\x01\x80\x00", "\x01\x81\x00", "\x01\x83\x80\x00", "\x02\x80\x00", "\x02\x81\x00", "\x02\xff\x7f", "\x02\x85\x80\x00", // not their own bytes
		"\x01" + nine + "\x00", "\x02" + nine + "\x00", "\x01" + nine + "\x02", "\x02" + full + "\x7f", "\x02" + nine + "\x01", // likewise, or beyond 64 bits
		"\x01" + nine + "\x80\x00", "\x01" + full + "\xff\x01", "\x02" + nine + "\x80\x00", "\x02" + full + "\xff\x7f", // too long
	} {
		for _, behind := range []string{"", "\x00", "\x03\x00"} {
			isReadAsTheWordsSay(t, b+behind)
			isReadAsTheWordsSay(t, "\x08\x14"+b+behind)
		}
		isNoProgram(t, b)
		isNoProgram(t, "\x08\x14"+b)
	}
	for _, b := range []string{"\x01\x80\x00\x00", "\x01\x83\x80\x00\x03\x00", "\x02\x80\x00\x00", "\x02\xff\x7f\x00", "\x02\x85\x80\x00\x03\x00", "\x01" + nine + "\x00\x00", "\x01" + nine + "\x80\x00\x00", "\x02" + nine + "\x80\x00\x00"} {
		isNoProgram(t, b)
	}
}

func TestTheEnd(t *testing.T) {
	for _, b := range []string{"", "\x03", "\x08", "\xff", "\x2d\x14", "\x01\x05", "\x02\x05", "\x01\x00", "\x02\x00", "\x01\x00\x03", "\x01\xac\x02\x03"} {
		isNoProgram(t, b)
		if l, e := lines.Read([]byte(b + "\x00")); e != api.OK {
			t.Errorf("Read(%x), with an end: %v, error %d", b, l, e)
		}
		for _, behind := range []string{"\x00", "\x01", "\x03", "\x08", "\xff", "\x00\x00", "\x14\x00", "\x01\x01\x00"} {
			isNoProgram(t, b+"\x00"+behind)
		}
	}
	isRead(t, "\x00")
}

func TestManyRowsInOtherWords(t *testing.T) {
	b := strings.Repeat("\x01\x01\x02\x00\x03", mostRows)
	l := evenly(mostRows)
	for i := range l {
		l[i].Pc++
	}
	isRead(t, b+"\x00", l...)
	isNoProgram(t, b+"\x01\x01\x02\x00\x03\x00")
	isNoProgram(t, b+"\x14\x00")
	isNoProgram(t, b)
	isRead(t, b+"\x01\x01\x02\x05\x00", l...) // steps behind the last row that there may be
	isNoProgram(t, b+"\x01\x01\x02\x05")
	isNoProgram(t, b+"\x01\x01\x03\x01\x01\x00")
	idle := strings.Repeat("\x01\x00\x02\x00", 100000)
	isRead(t, idle+"\x2d"+idle+"\x00", api.Row{Pc: 3, Point: 1})
	isNoProgram(t, idle+"\x2d"+idle)
}

func TestReadOfFewBytes(t *testing.T) {
	isReadAsTheWordsSay(t, "")
	for x := range 1 << 8 {
		isReadAsTheWordsSay(t, string([]byte{byte(x)}))
	}
	for x := range 1 << 16 {
		b := string([]byte{byte(x >> 8), byte(x)})
		for _, behind := range []string{"", "\x00", "\x03\x00"} {
			isReadAsTheWordsSay(t, b+behind)
		}
	}
}

func TestReadOfAnyBytes(t *testing.T) {
	signs := []byte{0, 1, 2, 3, 4, 5, 8, 15, 20, 63, 64, 127, 128, 129, 255}
	n := len(signs)
	for x := range n * n * n * n {
		b := []byte{signs[x%n], signs[x/n%n], signs[x/n/n%n], signs[x/n/n/n]}
		isReadAsTheWordsSay(t, string(b))
		isReadAsTheWordsSay(t, string(b)+"\x00")
		isReadAsTheWordsSay(t, s(30)+string(b)+"\x00")
	}
	next := dice(5)
	for range 40000 {
		b := make([]byte, next(24))
		for i := range b {
			b[i] = byte(next(256))
			if next(3) == 0 {
				b[i] = signs[next(n)]
			}
		}
		isReadAsTheWordsSay(t, s(100)+string(b)+"\x00")
	}
}

// What follows

func TestWhatIsWrittenIsRead(t *testing.T) {
	next := dice(1)
	for i := range 3000 {
		followsAllThat(t, thrown(next, i%60))
	}
	for range 5 {
		followsAllThat(t, thrown(next, mostRows))
	}
}

func TestWhatIsReadIsRightAndTheSameAgain(t *testing.T) {
	next := dice(2)
	right := 0
	for range 20000 {
		b, e := lines.Write(thrown(next, 1+next(5)))
		if e != api.OK {
			t.Fatalf("Write: error %d", e)
		}
		for range next(3) { // a byte other, one more, or one less
			switch at := next(len(b)); next(3) {
			case 0:
				b[at] = byte(next(256))
			case 1:
				b = slices.Insert(b, at, byte(next(5)))
			case 2:
				b = append(slices.Delete(b, at, at+1), 0)
			}
		}
		l, e := lines.Read(b)
		isReadAsTheWordsSay(t, string(b))
		if e == api.OK {
			right++
			followsAllThat(t, l)
		}
	}
	if right < 5000 || right > 19000 {
		t.Errorf("%d of 20000 were programs: not both kinds were tried", right)
	}
}

func TestHowManyBytesARowHas(t *testing.T) {
	l := []api.Row{{Pc: 1 << 22, Point: 500}, {Pc: 1 << 23, Point: 0}, {Pc: 3 << 22, Point: lastPoint}}
	b, e := lines.Write(l)
	if len(b) != 9*len(l)+1 || e != api.OK {
		t.Errorf("Write(%v): %x, error %d", l, b, e)
	}
	l = evenly(100)
	if b, e := lines.Write(l); len(b) != len(l)+1 || e != api.OK {
		t.Errorf("Write of 100 rows near to each other: %x, error %d", b, e)
	}
}

// P5.2

func TestAt(t *testing.T) {
	right := table(0, 4, 3, 1, 4, 4, 303, 0, lastPc, lastPoint)
	wrong := table(5, 9, 3, 1, 5, 2, -1, -7, bound, 5000, 3, 6, math.MinInt, math.MaxInt, math.MaxInt, math.MinInt, 8, 0, 8, 3)
	for _, c := range []struct {
		l         []api.Row
		pc, point int
		is        bool
	}{
		{nil, 0, 0, false}, {nil, -1, 0, false}, {[]api.Row{}, 0, 0, false}, {nil, math.MaxInt, 0, false},
		{right, 0, 4, true}, {right, 3, 1, true}, {right, 4, 4, true}, {right, 303, 0, true}, {right, lastPc, lastPoint, true},
		{right, 1, 0, false}, {right, 2, 0, false}, {right, 5, 0, false}, {right, 302, 0, false}, {right, 304, 0, false},
		{right, -1, 0, false}, {right, lastPc - 1, 0, false}, {right, bound, 0, false}, {right, math.MaxInt, 0, false}, {right, math.MinInt, 0, false}, {right, 1<<32 + 3, 0, false},
		{right[1:], 0, 0, false}, {right[:4], lastPc, 0, false}, {right[4:], lastPc, lastPoint, true},
		{wrong, 5, 9, true}, {wrong, 3, 1, true}, {wrong, 8, 0, true}, {wrong, -1, -7, true}, {wrong, bound, 5000, true},
		{wrong, math.MinInt, math.MaxInt, true}, {wrong, math.MaxInt, math.MinInt, true}, {wrong, 0, 0, false}, {wrong, 4, 0, false}, {wrong[1:], 5, 2, true},
	} {
		if point, is := lines.At(c.l, c.pc); point != c.point || is != c.is {
			t.Errorf("At(%v, %d): %d, %v, not %d, %v", c.l, c.pc, point, is, c.point, c.is)
		}
	}
}

func TestPcs(t *testing.T) {
	right := table(0, 4, 3, 1, 4, 4, 303, 0, 9000, 4, lastPc, lastPoint)
	wrong := table(5, 2, 3, 1, 5, 2, -1, -7, bound, 5000, 1, 2, math.MinInt, math.MaxInt, math.MaxInt, math.MinInt, 3, 1, 0, 0)
	for _, c := range []struct {
		l     []api.Row
		point int
		want  []int
	}{
		{nil, 0, nil}, {[]api.Row{}, 0, nil}, {nil, -1, nil},
		{right, 4, []int{0, 4, 9000}}, {right, 1, []int{3}}, {right, 0, []int{303}}, {right, lastPoint, []int{lastPc}},
		{right, 2, nil}, {right, 5, nil}, {right, -1, nil}, {right, api.MaxPoints, nil}, {right, math.MinInt, nil}, {right, math.MaxInt, nil}, {right, 1<<32 + 4, nil},
		{right[1:4], 4, []int{4}}, {right[:1], 4, []int{0}}, {right[5:], 4, nil},
		{wrong, 2, []int{5, 5, 1}}, {wrong, 1, []int{3, 3}}, {wrong, -7, []int{-1}}, {wrong, 5000, []int{bound}}, {wrong, 0, []int{0}},
		{wrong, math.MaxInt, []int{math.MinInt}}, {wrong, math.MinInt, []int{math.MaxInt}}, {wrong, 3, nil},
	} {
		if pcs := lines.Pcs(c.l, c.point); !slices.Equal(pcs, c.want) {
			t.Errorf("Pcs(%v, %d): %v, not %v", c.l, c.point, pcs, c.want)
		}
	}
	if pcs := lines.Pcs(table(5, 2, 6, 2, 7, 2, 8, 3, 8, 2, 8, 2), 2); !slices.Equal(pcs, []int{5, 6, 7, 8, 8}) {
		t.Errorf("Pcs of rows one behind the other: %v", pcs)
	}
	many := make([]api.Row, 3*mostRows)
	for i := range many {
		many[i] = api.Row{Pc: -i, Point: i % 2}
	}
	odd := lines.Pcs(many, 1)
	if len(odd) != len(many)/2 || odd[0] != -1 || odd[len(odd)-1] != 1-len(many) {
		t.Errorf("Pcs of every second one of %d rows: %d", len(many), len(odd))
	}
}

// R3

func TestRowsThatAreHandedInStay(t *testing.T) {
	whole := table(2, 1, 6, 900, 7, 1, 40, 3, 40, 1, 1, -5)
	kept := slices.Clone(whole)
	for size := range len(whole) + 1 { // the room behind the end holds the rest
		l := whole[:size]
		lines.Right(l)
		b, _ := lines.Write(l)
		point, is := lines.At(l, 40)
		pcs := lines.Pcs(l, 1)
		if want := size > 3; is != want || want && point != 3 {
			t.Errorf("At of the first %d rows: %d, %v", size, point, is)
		}
		overwrite(b, 0xee)
		overwrite(pcs, -1)
		if !slices.Equal(whole, kept) {
			t.Errorf("the first %d rows were changed, or what is answered is of their memory: %v", size, whole)
		}
	}
}

func TestBytesThatAreHandedInStay(t *testing.T) {
	whole := []byte("\x08\x2d\x01\xac\x02\x02\x7f\x03\x00\x14\x00")
	kept := slices.Clone(whole)
	for size := range len(whole) + 1 {
		l, e := lines.Read(whole[:size])
		if (e == api.OK) != (size == 9) {
			t.Errorf("Read of the first %d bytes: %v, error %d", size, l, e)
		}
		overwrite(l, api.Row{Pc: -1, Point: -1})
		if !slices.Equal(whole, kept) {
			t.Errorf("Read of the first %d bytes changed them: %x", size, whole)
		}
	}
}

func TestWhatIsAnsweredIsNewMemory(t *testing.T) {
	rows := table(2, 1, 6, 900, 7, 1, 40, 3)
	b, _ := lines.Write(rows)
	other, _ := lines.Write(rows)
	none, _ := lines.Write(nil)
	noneToo, _ := lines.Write(nil)
	pcs, pcsToo := lines.Pcs(rows, 1), lines.Pcs(rows, 1)
	overwrite(other, 0xee)
	overwrite(noneToo, 0xee)
	overwrite(pcsToo, -1)
	program := slices.Clone(b)
	l, _ := lines.Read(program)
	lToo, _ := lines.Read(program)
	overwrite(lToo, api.Row{})
	overwrite(program, 0xee) // what the caller does with it later
	kept := slices.Clone(rows)
	overwrite(rows, api.Row{})
	if string(b) != string(own(kept)) || string(none) != "\x00" {
		t.Errorf("Write: an answer turned to %x, %x", b, none)
	}
	if !slices.Equal(l, kept) {
		t.Errorf("Read: an answer turned to %v", l)
	}
	if !slices.Equal(pcs, []int{2, 7}) {
		t.Errorf("Pcs: an answer turned to %v", pcs)
	}
}

// overwrite fills a list, and the room behind its end.
func overwrite[T any](l []T, x T) {
	l = l[:cap(l)]
	for i := range l {
		l[i] = x
	}
}

// R5: what a call answers does not hang on those ahead of it.
func TestTheSameAgain(t *testing.T) {
	rows := table(0, 0, 3, 1, 303, 0)
	for range 3 {
		isWritten(t, rows, "\x08\x2d\x01\xac\x02\x02\x7f\x03\x00")
		isNoProgram(t, string(leb.PutU([]byte{1}, math.MaxUint64)))
		isWrong(t, []api.Row{{Pc: -1}})
	}
}
