package image_test

import (
	"math"
	"slices"
	"strings"
	"testing"

	"theodolite/api"
	"theodolite/image"
	"theodolite/isa"
	"theodolite/leb"
)

// bare is an image of code alone.
func bare(code string) api.Image { return api.Image{Code: []byte(code)} }

func place(name string, from, to int) api.Place { return api.Place{Name: name, From: from, To: to} }

func row(pc, point int) api.Row { return api.Row{Pc: pc, Point: point} }

func places(l ...api.Place) []api.Place { return l }

func rows(l ...api.Row) []api.Row { return l }

// ofFuncs is a point of each of these functions.
func ofFuncs(l ...int) []api.Point {
	points := make([]api.Point, len(l))
	for i, f := range l {
		points[i] = api.Point{Func: f, Line: i + 1}
	}
	return points
}

// two is an image of two functions, with a gap ahead of, between and behind them, in which instructions are of one byte and of more:
// 0 nop; f: 1 r0 is 7, 4 ret; 5 nop, 6 jump; g: 10 call, 14 r1 is r2, 16 halt; 18 ret.
func two() api.Image {
	return api.Image{
		Code:    []byte("\x01\x02\x00\x07\x0d\x01\x0a\x00\x00\x01\x0c\x00\x00\x01\x03\x12\x11\x01\x0d"),
		Start:   10,
		Rows:    rows(row(1, 1), row(4, 0), row(10, 2), row(14, 2)),
		Unwinds: []api.Unwind{{From: 1, To: 5, Up: 1}, {From: 11, To: 19, Up: 3, Regs: []api.Saved{{Reg: 7, At: -2}}}},
		Places: places(place("f", 1, 5), api.Place{
			Name: "g", From: 10, To: 18,
			Vars:  []api.Var{{Name: "x", Type: api.Type{Kind: api.TyInt}, Words: 1}, {Name: "p", Type: api.Type{Kind: api.TyStruct, Name: "T"}, Words: 1, Fields: []string{"a"}}},
			Spans: [][]api.Span{{{From: 11, To: 17, At: []api.Loc{{Kind: api.LocReg, N: 1}}}}, nil},
		}),
		Points: []api.Point{{Func: 0, Line: 2}, {Func: 0, Line: 1}, {Func: 1, Line: 300, Scope: []int{0, 1}}},
	}
}

const twos = head + "\x0a" +
	"\x13\x01\x02\x00\x07\x0d\x01\x0a\x00\x00\x01\x0c\x00\x00\x01\x03\x12\x11\x01\x0d" +
	"\x05\x15\x2b\x52\x38\x00" +
	"\x0b\x02\x01\x04\x01\x00\x06\x08\x03\x01\x07\x02" +
	"\x2a\x02\x01f\x01\x04\x00\x01g\x05\x08\x02\x01x\x01\x01\x0b\x06\x01\x02\x01\x01p\x04\x01T\x01\x01a\x00\x03\x00\x02\x00\x00\x01\x00\x01\xac\x02\x02\x00\x01"

// spoilt is the image two, of which something is another.
func spoilt(spoil func(m *api.Image)) api.Image {
	m := two()
	spoil(&m)
	return m
}

func TestExamples(t *testing.T) {
	isImage(t, bare("\x0d"), "\x54\x48\x45\x4f\x01\x00\x01\x0d\x01\x00\x01\x00\x02\x00\x00")
	isWrong(t, bare("\x02"))
	isNotRead(t, "")
	if m, e := image.Read(nil); !same(m, api.Image{}) || e != api.ErrForm {
		t.Errorf("Read of nil: %v, error %d", m, e)
	}
}

func TestTwoFunctions(t *testing.T) {
	if own(two()) != twos {
		t.Errorf("the model says %x, not %x", own(two()), twos)
	}
	isImage(t, two(), twos)
}

// P10.1

func TestBegins(t *testing.T) {
	for code, want := range map[string][]int{
		"":                             nil,
		"\x01":                         {0},
		"\x0d\x0d\x0d":                 {0, 1, 2},
		"\x01\x02\x00\x07\x0d":         {0, 1, 4},
		"\x02\x01\x07\x10\x01\x11\x01": {0, 3, 5},
		"\x0a\x00\x00\x01\x01":         {0, 4}, // whereto a jump goes says nothing
		"\x0a\xff\xff\xff":             {0},    // neither that there is nothing
		"\x12\x02\x01":                 {0, 2}, // nothing goes on behind a trap, yet it is code
		"\x04\x02\x12\x03\x0d":         {0, 4}, // 02 12 03 alone would be r18 is 3, which is none
		"\x02\x01\x0d\x0d":             {0, 3}, // 0d is a ret the second time alone
		string(two().Code):             {0, 1, 4, 5, 6, 10, 14, 16, 18},
	} {
		for _, b := range [][]byte{[]byte(code), append([]byte(code), 1, 2, 3)[:len(code)]} {
			if l, is := image.Begins(b); !slices.Equal(l, want) || !is {
				t.Errorf("Begins of %x: %v, %v, not %v", code, l, is, want)
			}
		}
	}
	if l, is := image.Begins(nil); len(l) != 0 || !is {
		t.Errorf("Begins of nil: %v, %v", l, is)
	}
}

func TestBeginsOfWhatIsNoCode(t *testing.T) {
	for _, code := range []string{"\x00", "\x13", "\xff", "\x02", "\x02\x00", "\x02\x00\x80", "\x02\x10\x00", "\x01\x00", "\x01\x01\x02", "\x0d\x0a\x00\x00", "\x00\x01", "\x02\x00\x80\x00\x01", "\x12\x01", "\x01\x02\x00\x07\x0d\x03"} {
		if l, is := image.Begins([]byte(code)); len(l) != 0 || is {
			t.Errorf("Begins of %x: %v, %v", code, l, is)
		}
		room := append([]byte(code), "\x00\x00\x00\x00\x01"...) // what is behind the end does not count
		if l, is := image.Begins(room[:len(code)]); len(l) != 0 || is {
			t.Errorf("Begins of %x: %v, %v", code, l, is)
		}
	}
}

// sorts is an instruction of each kind.
func sorts() []api.Instr {
	return []api.Instr{
		{Kind: api.MacNop}, {Kind: api.MacNum, R: 15, N: math.MinInt64}, {Kind: api.MacMove, R: 1, S: 2}, {Kind: api.MacBin, Op: api.OpSub, R: 1, S: 2, T: 3}, {Kind: api.MacUn, Op: api.OpNeg, R: 4, S: 5},
		{Kind: api.MacLoad, R: 1, S: 15, N: -64}, {Kind: api.MacStore, R: 1, S: 15, N: 65536}, {Kind: api.MacPick, R: 1, S: 2, T: 3, N: -65536, M: 65536}, {Kind: api.MacLay, R: 1, S: 2, T: 3, N: 0, M: 1},
		{Kind: api.MacJump, N: 1<<24 - 1}, {Kind: api.MacZero, R: 2, N: 258}, {Kind: api.MacCall}, {Kind: api.MacRet}, {Kind: api.MacFrame, N: 64}, {Kind: api.MacIn, R: 3}, {Kind: api.MacOut, R: 4}, {Kind: api.MacHalt}, {Kind: api.MacTrap, N: 3},
	}
}

func TestBeginsOfEachKind(t *testing.T) {
	var all []byte
	var want []int
	for _, i := range sorts() {
		b := isa.Put(nil, i)
		if l, is := image.Begins(b); !slices.Equal(l, []int{0}) || !is {
			t.Errorf("Begins of %v: %v, %v", i, l, is)
		}
		for size := 1; size < len(b); size++ {
			if l, is := image.Begins(b[:size]); len(l) != 0 || is {
				t.Errorf("Begins of %d bytes of %v: %v, %v", size, i, l, is)
			}
		}
		want = append(want, len(all))
		all = append(all, b...)
	}
	if l, is := image.Begins(all); !slices.Equal(l, want) || !is {
		t.Errorf("Begins of all kinds: %v, %v, not %v", l, is, want)
	}
	for size := range all {
		isBegins(t, all[:size])
	}
}

func TestBeginsOfAllSmallCode(t *testing.T) {
	for x := range 256 {
		isBegins(t, []byte{byte(x)})
		for y := range 256 {
			isBegins(t, []byte{byte(x), byte(y)})
			isBegins(t, []byte{byte(x), byte(y), 0})
			isBegins(t, []byte{byte(x), byte(y), 1, 13})
		}
	}
}

// An image's code has a bound; what Begins is asked of has none.
func TestBeginsOfLongCode(t *testing.T) {
	code := []byte(strings.Repeat("\x01", 1<<20+3) + "\x02\x00\x07")
	if l, is := image.Begins(code); len(l) != 1<<20+4 || l[1<<20+3] != 1<<20+3 || !is {
		t.Errorf("Begins of %d bytes: %d places, %v", len(code), len(l), is)
	}
	if l, is := image.Begins(code[:len(code)-1]); len(l) != 0 || is {
		t.Errorf("Begins of %d bytes: %d places, %v", len(code)-1, len(l), is)
	}
}

// P10.2: the code, and where it begins

func TestHowLongCodeMayBe(t *testing.T) {
	isWrong(t, api.Image{})
	isWrong(t, api.Image{Code: []byte{}})
	for _, n := range []int{1, 2, 127, 128, 129, 1 << 14, 1<<20 - 1, 1 << 20} {
		m := bare(strings.Repeat("\x01", n-1) + "\x0d")
		m.Start = n - 1
		m.Unwinds = []api.Unwind{{From: 0, To: n, Up: 1}}
		m.Places = places(place("f", 0, n))
		m.Points = ofFuncs(0)
		m.Rows = rows(row(n-1, 0))
		isImage(t, m, own(m))
	}
	for _, n := range []int{1<<20 + 1, 1<<20 + 2, 1 << 21, 1<<24 + 1} {
		isWrong(t, bare(strings.Repeat("\x01", n)))
	}
	full := bare(strings.Repeat("\x01", 1<<20-3) + "\x02\x00\x07")
	isImage(t, full, own(full))
	isWrong(t, bare(strings.Repeat("\x01", 1<<20-2)+"\x02\x00\x07"))
}

func TestCodeThatIsNone(t *testing.T) {
	for _, code := range []string{"\x00", "\x02", "\x0d\x00", "\x0d\x02\x00", "\x0d\x13", "\x0d\xff", "\x00\x0d", "\x0a\x00\x00", "\x0d\x02\x10\x00", "\x0d\x02\x00\x80\x00"} {
		isWrong(t, bare(code))
		isWrong(t, api.Image{Code: []byte(code), Places: places(place("f", 0, len(code)))})
	}
	for size := range twos[6:25] { // the code of two, cut
		m := bare(twos[7 : 7+size])
		isAsTheWordsSay(t, m)
	}
}

func TestWhereItMayStart(t *testing.T) {
	begins := []int{0, 1, 4, 5, 6, 10, 14, 16, 18}
	for start := -3; start < 30; start++ {
		m := spoilt(func(m *api.Image) { m.Start = start })
		if slices.Contains(begins, start) {
			isImage(t, m, own(m))
		} else {
			isWrong(t, m)
		}
	}
	for _, start := range []int{math.MinInt, -1 << 32, 1<<8 + 10, 1<<16 + 10, 1 << 24, 1 << 32, 1<<32 + 10, math.MaxInt} {
		isWrong(t, spoilt(func(m *api.Image) { m.Start = start }))
	}
	isWrong(t, api.Image{Code: []byte("\x0d"), Start: 1})
}

// P10.2: functions

func TestWhereFunctionsMayBe(t *testing.T) {
	begins := []int{0, 1, 4, 5, 6, 10, 14, 16, 18}
	for from := -1; from < 23; from++ {
		for to := -1; to < 23; to++ {
			m := bare(string(two().Code))
			m.Places = places(place("f", from, to))
			right := slices.Contains(begins, from) && (slices.Contains(begins, to) || to == 19) && from < to
			if isAsTheWordsSay(t, m) != right {
				t.Errorf("a function from %d to %d: %v", from, to, !right)
			}
			m.Places = places(place("e", 0, 1), place("f", from, to))
			isAsTheWordsSay(t, m)
			m.Places = places(place("f", from, to), place("g", 18, 19))
			isAsTheWordsSay(t, m)
			m.Places = places(place("e", 0, 1), place("f", from, to), place("g", 18, 19))
			isAsTheWordsSay(t, m)
		}
	}
	for _, to := range []int{20, 1<<8 + 5, 1 << 20, 1 << 24, 1<<24 + 1, math.MaxInt} {
		isWrong(t, spoilt(func(m *api.Image) { m.Places[1].To = to }))
	}
}

func TestTablesThatAreNotRight(t *testing.T) {
	for i, spoil := range []func(m *api.Image){
		func(m *api.Image) { m.Places[0].Name = "" },
		func(m *api.Image) { m.Places[1].Name = "a b" },
		func(m *api.Image) { m.Places[1].Vars[0].Words = 2 },
		func(m *api.Image) { m.Places[1].Vars = m.Places[1].Vars[:1] },
		func(m *api.Image) { m.Places[1].Spans = m.Places[1].Spans[:1] },
		func(m *api.Image) { m.Places[1].Spans = nil },
		func(m *api.Image) { m.Places[1].Spans[0][0].From = 9 },
		func(m *api.Image) { m.Places[1].Spans[0][0].To = 19 },
		func(m *api.Image) { m.Places[1].Spans[0][0].At = nil },
		func(m *api.Image) { m.Places[1].Spans[0][0].At[0].N = 16 },
		func(m *api.Image) { m.Places[0], m.Places[1] = m.Places[1], m.Places[0]; m.Rows = nil },
		func(m *api.Image) { m.Places[0].To = 14 },
		func(m *api.Image) { m.Points[0].Func = 2 },
		func(m *api.Image) { m.Points[0].Func = -1 },
		func(m *api.Image) { m.Points[1].Line = 0 },
		func(m *api.Image) { m.Points[1].Line = 1<<20 + 1 },
		func(m *api.Image) { m.Points[2].Scope[1] = 0 },
		func(m *api.Image) { m.Points[2].Scope[1] = 2 },
		func(m *api.Image) { m.Points[0].Scope = []int{0} },
		func(m *api.Image) { m.Points = append(m.Points, make([]api.Point, 4)...) },
		func(m *api.Image) { m.Points = append(m.Points, ofFuncs(make([]int, 998)...)...) },
		func(m *api.Image) { m.Places = nil },
		func(m *api.Image) { m.Places = m.Places[:1] },
		func(m *api.Image) { m.Places, m.Rows = nil, nil },
	} {
		if m := spoilt(spoil); isAsTheWordsSay(t, m) {
			t.Errorf("%d is right", i)
		}
	}
	// What is no place of an instruction may be one of a span.
	for from := 10; from < 18; from++ {
		for to := from + 1; to <= 18; to++ {
			m := spoilt(func(m *api.Image) { m.Places[1].Spans[0][0].From, m.Places[1].Spans[0][0].To = from, to })
			isImage(t, m, own(m))
		}
	}
}

// P10.2: rows

func TestWhereRowsMayBe(t *testing.T) {
	// Of each pc the point of f, of g, and of none: each is right just in its own function, where an instruction begins.
	right := map[int]int{1: 0, 4: 0, 10: 2, 14: 2, 16: 2}
	for pc := -1; pc < 25; pc++ {
		for point := -1; point < 6; point++ {
			f, is := right[pc]
			is = is && (point == f || f == 0 && point == 1)
			if m := spoilt(func(m *api.Image) { m.Rows = rows(row(pc, point)) }); isAsTheWordsSay(t, m) != is {
				t.Errorf("a row %d, %d: %v", pc, point, !is)
			}
			isAsTheWordsSay(t, spoilt(func(m *api.Image) { m.Rows = rows(row(1, 0), row(pc, point)) }))
			isAsTheWordsSay(t, spoilt(func(m *api.Image) { m.Rows = rows(row(pc, point), row(16, 2)) }))
			isAsTheWordsSay(t, spoilt(func(m *api.Image) { m.Rows = rows(row(1, 0), row(pc, point), row(16, 2)) }))
		}
	}
	for _, far := range []int{math.MinInt, -1 << 32, 1<<8 + 1, 1 << 24, 1<<32 + 1, math.MaxInt} {
		isWrong(t, spoilt(func(m *api.Image) { m.Rows[3].Pc = far }))
		isWrong(t, spoilt(func(m *api.Image) { m.Rows[3].Point = far }))
	}
}

// Where one function ends and the next one begins the row is the next one's.
func TestRowsOfNeighbours(t *testing.T) {
	m := bare("\x01\x0d\x01\x0d\x0d")
	m.Places = places(place("f", 0, 2), place("g", 2, 4), place("h", 4, 5))
	for pc := range 6 {
		for f := range 3 {
			m.Points, m.Rows = ofFuncs(f), rows(row(pc, 0))
			if isAsTheWordsSay(t, m) != (pc/2 == f && pc < 5) {
				t.Errorf("a row at %d, of function %d", pc, f)
			}
		}
	}
}

func TestRowsThatAreNotRight(t *testing.T) {
	for _, l := range [][]api.Row{
		rows(row(1, 0), row(1, 0)), rows(row(4, 0), row(1, 0)), rows(row(1, 0), row(1, 1)), rows(row(10, 2), row(14, 2), row(4, 0)),
		make([]api.Row, 20001), rows(row(1, 3)), rows(row(1, 999)), rows(row(1, 1000)), rows(row(-1, 0)),
	} {
		isWrong(t, spoilt(func(m *api.Image) { m.Rows = l }))
	}
	isWrong(t, spoilt(func(m *api.Image) { m.Points = m.Points[:2] }))
	isWrong(t, spoilt(func(m *api.Image) { m.Points = nil }))
	isWrong(t, api.Image{Code: []byte("\x0d"), Rows: rows(row(0, 0))})
	isWrong(t, api.Image{Code: []byte("\x0d"), Rows: rows(row(0, 0)), Places: places(place("f", 0, 1))})
}

func TestManyRows(t *testing.T) {
	m := bare(strings.Repeat("\x01", 20001))
	m.Places, m.Points = places(place("f", 0, 20001)), ofFuncs(make([]int, 1000)...)
	for i := range 20000 {
		m.Rows = append(m.Rows, row(i, i*7%1000))
	}
	isImage(t, m, own(m))
	m.Rows = append(m.Rows, row(20000, 0))
	isWrong(t, m)
}

// P10.2: unwinds

func TestWhereUnwindsMayBe(t *testing.T) {
	for from := -1; from < 23; from++ {
		for to := -1; to < 23; to++ {
			u := api.Unwind{From: from, To: to}
			m := spoilt(func(m *api.Image) { m.Unwinds = []api.Unwind{u} })
			if right := from >= 0 && from < to && to <= 19; isAsTheWordsSay(t, m) != right {
				t.Errorf("unwinding from %d to %d: %v", from, to, !right)
			}
			m.Unwinds = []api.Unwind{{From: 0, To: 3}, u}
			isAsTheWordsSay(t, m)
			m.Unwinds = []api.Unwind{u, {From: 18, To: 19}}
			isAsTheWordsSay(t, m)
			m.Unwinds = []api.Unwind{u, {From: 20, To: 21}} // not the first one alone counts
			isAsTheWordsSay(t, m)
		}
	}
	for _, to := range []int{20, 1 << 20, 1 << 24, 1<<24 + 1, math.MaxInt} {
		isWrong(t, spoilt(func(m *api.Image) { m.Unwinds[1].To = to }))
	}
}

func TestUnwindsThatAreNotRight(t *testing.T) {
	for i, spoil := range []func(m *api.Image){
		func(m *api.Image) { m.Unwinds[0].Up = -1 },
		func(m *api.Image) { m.Unwinds[1].Up = 65537 },
		func(m *api.Image) { m.Unwinds[1].Regs[0].Reg = 5 },
		func(m *api.Image) { m.Unwinds[1].Regs[0].At = -1 },
		func(m *api.Image) { m.Unwinds[0], m.Unwinds[1] = m.Unwinds[1], m.Unwinds[0] },
		func(m *api.Image) { m.Unwinds[0].To = 12 },
		func(m *api.Image) { m.Unwinds = make([]api.Unwind, 4001) },
	} {
		if m := spoilt(spoil); isAsTheWordsSay(t, m) {
			t.Errorf("%d is right", i)
		}
	}
}

// P10.2: the bytes

func TestSizesOfSections(t *testing.T) {
	for _, n := range []int{1, 126, 127, 128, 129, 300, 1<<14 - 1, 1 << 14} {
		m := bare(strings.Repeat("\x01", n))
		size := string(leb.PutU(nil, uint64(n)))
		isImage(t, m, head+"\x00"+size+strings.Repeat("\x01", n)+"\x01\x00\x01\x00\x02\x00\x00")
		m.Start = n - 1
		isImage(t, m, head+string(leb.PutU(nil, uint64(n-1)))+size+strings.Repeat("\x01", n)+"\x01\x00\x01\x00\x02\x00\x00")
		m.Places, m.Points = places(place("f", 0, n)), ofFuncs(make([]int, min(n, 1000))...)
		for i := range min(n, 1000) {
			m.Rows = append(m.Rows, row(i, i))
			m.Unwinds = append(m.Unwinds, api.Unwind{From: i, To: i + 1, Up: int64(i)})
		}
		isImage(t, m, own(m))
	}
}

// Each beginning of an image's bytes is none, and more than them is none.
func TestBytesThatAreCutOff(t *testing.T) {
	for _, b := range []string{twos, own(bare("\x0d"))} {
		for size := range len(b) {
			isNotRead(t, b[:size])
			isNotRead(t, b[size+1:])
			if m, e := image.Read([]byte(b)[:size]); !same(m, api.Image{}) || e != api.ErrForm { // what is behind the end does not count
				t.Errorf("Read of %d bytes: %v, error %d", size, m, e)
			}
		}
		for _, more := range []string{"\x00", "\x01", "\x80", "\x01\x00", "\x00\x00", "T", head, b} {
			isNotRead(t, b+more)
			isNotRead(t, more+b)
		}
	}
}

func TestTheHead(t *testing.T) {
	for i := range len(head) {
		for x := range 256 {
			b := []byte(twos)
			b[i] = byte(x)
			if byte(x) != head[i] {
				isNotRead(t, string(b))
			}
		}
		isNotRead(t, twos[:i]+twos[i+1:])
		isNotRead(t, twos[:i]+twos[i:i+1]+twos[i:])
	}
	isNotRead(t, head)
	isNotRead(t, strings.ToLower(head[:4])+twos[4:])
}

func TestStartsAsBytes(t *testing.T) {
	sections := twos[6:]
	isRead(t, head+"\x0a"+sections, two())
	for _, start := range []string{"", "\x8a\x00", "\x8a\x80\x00", "\x80", "\x0b", "\x13", "\x8a\x01", "\x8a\x80\x04", "\x8a\x80\x80\x80\x10", "\x8a\x80\x80\x80\x80\x80\x80\x80\x80\x01", "\x8a\x80\x80\x80\x80\x80\x80\x80\x80\x02", "\xff\xff\xff\xff\xff\xff\xff\xff\xff\x01", "\xff\xff\xff\xff\xff\xff\xff\xff\x7f", "\xf6\xff\xff\xff\xff\xff\xff\xff\xff\x01"} {
		isNotRead(t, head+start+sections)
	}
	for start := range uint64(40) {
		isReadAsTheWordsSay(t, with(start, said(two())...))
	}
}

// withSize is the bytes of sections, of which one has another size ahead than it has.
func withSize(size string, which int, sections []string) string {
	b := head + "\x0a"
	for i, s := range sections {
		if i == which {
			b += size + s
		} else {
			b += sized(s)
		}
	}
	return b
}

func TestSizesThatAreNot(t *testing.T) {
	l := said(two())
	for which, s := range l {
		n := uint64(len(s))
		isRead(t, withSize(string(leb.PutU(nil, n)), which, l), two())
		for _, size := range []uint64{0, 1, n - 2, n - 1, n + 1, n + 2, n + 128, n + 1<<14, 1 << 20, n + 1<<31, 1 << 32, n + 1<<32, 1<<63 - 1, 1 << 63, n + 1<<63, 1<<64 - 1, -n, 1<<64 - 5} {
			isNotRead(t, withSize(string(leb.PutU(nil, size)), which, l))
		}
		for _, size := range []string{"", "\x80", string([]byte{byte(n) | 0x80, 0}), string([]byte{byte(n) | 0x80, 0x80, 0}), strings.Repeat("\x80", 9) + "\x02", strings.Repeat("\xff", 10), strings.Repeat("\xff", 9) + "\x01"} {
			isNotRead(t, withSize(size, which, l))
		}
	}
}

// Each section is read up to its end, by itself.
func TestSectionsThatSayMore(t *testing.T) {
	l := said(two())
	for which := range l {
		for _, more := range []string{"\x00", "\x01\x00", "\x80", "\xff", l[which]} {
			c := slices.Clone(l)
			c[which] += more
			b := with(10, c...)
			if which > 0 {
				isNotRead(t, b)
			}
			isReadAsTheWordsSay(t, b)
		}
		for size := range len(l[which]) {
			c := slices.Clone(l)
			c[which] = c[which][:size]
			isReadAsTheWordsSay(t, with(10, c...))
			c[which] = l[which][size+1:]
			isReadAsTheWordsSay(t, with(10, c...))
			if which < 3 { // what one has less the next one has more: the bytes are the same, but the sizes
				c = slices.Clone(l)
				c[which], c[which+1] = l[which][:size], l[which][size:]+l[which+1]
				isNotRead(t, with(10, c...))
			}
		}
	}
	isNotRead(t, with(10, l[:3]...))
	isNotRead(t, with(10, append(l, "")...))
	isNotRead(t, with(10, l[0], l[1], l[3], l[2]))
	isNotRead(t, with(10, l[0], l[2], l[1], l[3]))
	isNotRead(t, with(10, l[1], l[0], l[2], l[3]))
}

// The line section may be any program; of what is read its own one is written.
func TestLineProgramsThatAreNotTheirOwn(t *testing.T) {
	l := said(two())
	for _, program := range []string{
		"\x01\x01\x02\x01\x03\x2b\x52\x38\x00",             // steps 1, 2 and 3 instead of one byte
		"\x02\x01\x01\x01\x03\x2b\x52\x38\x00",             // in another order
		"\x01\x00\x15\x02\x00\x2b\x52\x38\x00",             // steps that turn nothing
		"\x15\x2b\x52\x38\x01\x80\x80\x20\x00",             // a step behind the last row
		"\x15\x2b\x52\x38\x01\xff\xff\x3f\x02\x80\x01\x00", // more than the code, and more than there are points, yet no row there
	} {
		b := with(10, l[0], program, l[2], l[3])
		isRead(t, b, two())
		if !isReadAsTheWordsSay(t, b) {
			t.Errorf("the model refuses %x", program)
		}
	}
	for _, program := range []string{"", "\x15\x2b\x52\x38", "\x03\x00", "\x15\x2b\x52\x38\x00\x00", "\x00\x15\x2b\x52\x38\x00", "\x15\x03\x00", "\x15\x2b\x52\x38\x01\x80\x00\x00", "\x15\x2b\x52\x38\x01\x02\x02\x01\x03\x00", "\x15\x2b\x52\x38\x02\x7f\x00\x00"} {
		isNotRead(t, with(10, l[0], program, l[2], l[3]))
	}
}

// In the other sections no number has two writings.
func TestOtherWritings(t *testing.T) {
	for _, c := range [][]string{
		{"\x0d", "\x00", "\x80\x00", "\x00\x00"}, {"\x0d", "\x00", "\x00", "\x80\x00\x00"}, {"\x0d", "\x00", "\x00", "\x00\x80\x00"}, {"\x02\x00\x80\x00", "\x00", "\x00", "\x00\x00"},
		{"\x0d", "\x00", "", "\x00\x00"}, {"\x0d", "\x00", "\x00", "\x00"}, {"\x0d", "\x00", "\x00", ""}, {"\x0d", "", "\x00", "\x00\x00"}, {"", "\x00", "\x00", "\x00\x00"}, {"", "", "", ""},
	} {
		isNotRead(t, with(0, c...))
	}
	isRead(t, with(0, "\x0d", "\x00", "\x00", "\x00\x00"), bare("\x0d"))
}

// Of what is wrong in the bytes alone, and of what is wrong in the image they say: ErrForm either way.
func TestReadOfImagesThatAreNotRight(t *testing.T) {
	for _, b := range []string{
		with(1, "\x0d", "\x00", "\x00", "\x00\x00"),                                          // it starts behind the code
		with(0, "\x02", "\x00", "\x00", "\x00\x00"),                                          // no instruction
		with(0, "\x0d", "\x08\x00", "\x00", "\x00\x00"),                                      // a row without a point
		with(0, "\x0d", "\x08\x00", "\x00", "\x00\x01\x00\x01\x00"),                          // a point without a function
		with(0, "\x0d", "\x00", "\x01\x00\x02\x00\x00", "\x00\x00"),                          // unwinding behind the code
		with(0, "\x0d", "\x00", "\x00", "\x01\x01f\x00\x02\x00\x00"),                         // a function behind the code
		with(0, "\x0d", "\x00", "\x00", "\x01\x01f\x01\x01\x00\x00"),                         // a function behind the code
		with(0, "\x02\x00\x07", "\x00", "\x00", "\x01\x01f\x00\x01\x00\x00"),                 // a function that ends within an instruction
		with(0, "\x02\x00\x07", "\x14\x00", "\x00", "\x01\x01f\x00\x03\x00\x01\x00\x01\x00"), // a row within one
	} {
		if isReadAsTheWordsSay(t, b) {
			t.Errorf("%x is right", b)
		}
	}
	long := strings.Repeat("\x01", 1<<20)
	isRead(t, with(1<<20-1, long, "\x00", "\x00", "\x00\x00"), api.Image{Code: []byte(long), Start: 1<<20 - 1})
	isNotRead(t, with(1<<20, long, "\x00", "\x00", "\x00\x00"))
	isNotRead(t, with(0, long+"\x01", "\x00", "\x00", "\x00\x00"))
}

func TestTheGreatestOfAll(t *testing.T) {
	m := bare(strings.Repeat("\x01", 1<<20-64))
	for i := range 64 {
		m.Code = append(m.Code, 13)
		p := place("abcdefghijklmnopqrstuvwx", i<<14, (i+1)<<14)
		for range 64 {
			p.Vars = append(p.Vars, api.Var{Name: "x", Type: api.Type{Kind: api.TyArray, N: 16}, Words: 16})
			p.Spans = append(p.Spans, []api.Span{{From: i << 14, To: (i + 1) << 14, At: []api.Loc{{Kind: api.LocNum, N: math.MinInt64}}}})
		}
		m.Places = append(m.Places, p)
	}
	for i := range 1000 {
		m.Points = append(m.Points, api.Point{Func: i % 64, Line: 1<<20 - i, Scope: []int{0, 31, 63}})
	}
	for i := range 20000 {
		m.Rows = append(m.Rows, row(i*50, i*50>>14))
	}
	for i := range 4000 {
		m.Unwinds = append(m.Unwinds, api.Unwind{From: 200 * i, To: 200*i + 200, Up: 65536, Regs: []api.Saved{{Reg: 6, At: -65536}, {Reg: 11, At: -2}}})
	}
	m.Start = 1<<20 - 1
	b := own(m)
	isImage(t, m, b)
	isNotRead(t, b[:len(b)-1])
	isNotRead(t, b+"\x00")
	m.Rows[19999].Point++
	isWrong(t, m)
}
