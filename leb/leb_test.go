package leb_test

import (
	"bytes"
	"math"
	"math/big"
	"strings"
	"testing"

	"theodolite/api"
	"theodolite/leb"
)

const mostBytes = 10

// P2.1

func TestPutU(t *testing.T) {
	for _, c := range []struct {
		b    string
		x    uint64
		want string
	}{
		{"", 0, "\x00"},
		{"", 1, "\x01"},
		{"", 64, "\x40"},
		{"", 127, "\x7f"},
		{"", 128, "\x80\x01"},
		{"", 129, "\x81\x01"},
		{"", 255, "\xff\x01"},
		{"", 256, "\x80\x02"},
		{"", 300, "\xac\x02"},
		{"", 1<<14 - 1, "\xff\x7f"},
		{"", 1 << 14, "\x80\x80\x01"},
		{"", 0x123456, "\xd6\xe8\x48"},
		{"", 1<<63 - 1, "\xff\xff\xff\xff\xff\xff\xff\xff\x7f"},
		{"", 1 << 63, "\x80\x80\x80\x80\x80\x80\x80\x80\x80\x01"},
		{"", 1<<64 - 1, "\xff\xff\xff\xff\xff\xff\xff\xff\xff\x01"},
		{"\x07", 0, "\x07\x00"},
		{"\x80", 300, "\x80\xac\x02"},
		{"ab\xff", 1 << 14, "ab\xff\x80\x80\x01"},
	} {
		if b := leb.PutU([]byte(c.b), c.x); string(b) != c.want {
			t.Errorf("PutU(%x, %d): %x", c.b, c.x, b)
		}
	}
	if b := leb.PutU(nil, 300); string(b) != "\xac\x02" {
		t.Errorf("PutU(nil, 300): %x", b)
	}
}

func TestPutS(t *testing.T) {
	for _, c := range []struct {
		b    string
		x    int64
		want string
	}{
		{"", 0, "\x00"},
		{"", 1, "\x01"},
		{"", -1, "\x7f"},
		{"", 63, "\x3f"},
		{"", 64, "\xc0\x00"},
		{"", -64, "\x40"},
		{"", -65, "\xbf\x7f"},
		{"", 127, "\xff\x00"},
		{"", 128, "\x80\x01"},
		{"", -128, "\x80\x7f"},
		{"", 300, "\xac\x02"},
		{"", 1<<13 - 1, "\xff\x3f"},
		{"", 1 << 13, "\x80\xc0\x00"},
		{"", -1 << 13, "\x80\x40"},
		{"", -1<<13 - 1, "\xff\xbf\x7f"},
		{"", 1<<62 - 1, "\xff\xff\xff\xff\xff\xff\xff\xff\x3f"},
		{"", 1 << 62, "\x80\x80\x80\x80\x80\x80\x80\x80\xc0\x00"},
		{"", -1 << 62, "\x80\x80\x80\x80\x80\x80\x80\x80\x40"},
		{"", -1<<62 - 1, "\xff\xff\xff\xff\xff\xff\xff\xff\xbf\x7f"},
		{"", math.MaxInt64, "\xff\xff\xff\xff\xff\xff\xff\xff\xff\x00"},
		{"", math.MinInt64, "\x80\x80\x80\x80\x80\x80\x80\x80\x80\x7f"},
		{"\x07", 0, "\x07\x00"},
		{"\x80", -65, "\x80\xbf\x7f"},
		{"ab\xff", 64, "ab\xff\xc0\x00"},
	} {
		if b := leb.PutS([]byte(c.b), c.x); string(b) != c.want {
			t.Errorf("PutS(%x, %d): %x", c.b, c.x, b)
		}
	}
	if b := leb.PutS(nil, -65); string(b) != "\xbf\x7f" {
		t.Errorf("PutS(nil, -65): %x", b)
	}
}

func TestLastOfEachCountOfBytesAndTheNextOne(t *testing.T) {
	for n := 1; n < mostBytes; n++ {
		last := uint64(1)<<(7*n) - 1
		if m := len(leb.PutU(nil, last)); m != n {
			t.Errorf("PutU(%d): %d bytes", last, m)
		}
		if m := len(leb.PutU(nil, last+1)); m != n+1 {
			t.Errorf("PutU(%d): %d bytes", last+1, m)
		}
		greatest := int64(1)<<(7*n-1) - 1
		least := -greatest - 1
		for _, x := range []int64{greatest, least} {
			if m := len(leb.PutS(nil, x)); m != n {
				t.Errorf("PutS(%d): %d bytes", x, m)
			}
		}
		for _, x := range []int64{greatest + 1, least - 1} {
			if m := len(leb.PutS(nil, x)); m != n+1 {
				t.Errorf("PutS(%d): %d bytes", x, m)
			}
		}
	}
}

func TestPutsAsTheWordsSay(t *testing.T) {
	for _, k := range bothKinds() {
		for _, x := range k.numbers() {
			if b := k.put(nil, x); !bytes.Equal(b, k.own(x)) {
				t.Errorf("Put%s(%d): %x, not %x", k.name, x, b, k.own(x))
			}
		}
	}
}

// P2.2

func TestU(t *testing.T) {
	two := "\x80\x01\xff"
	nine := strings.Repeat("\x80", 9)
	full := strings.Repeat("\xff", 9)
	for _, c := range []struct {
		b    string
		at   int
		x    uint64
		next int
		e    api.Errno
	}{
		{two, 0, 128, 2, api.OK},
		{two, 1, 1, 2, api.OK},
		{"\x00", 0, 0, 1, api.OK},
		{"\x7f\x7f", 0, 127, 1, api.OK},
		{"\x7f\x7f", 1, 127, 2, api.OK},
		{"\x80\x00", 0, 0, 0, api.ErrForm},
		{"\xff\x00", 0, 0, 0, api.ErrForm},
		{"\xff\x80\x00", 0, 0, 0, api.ErrForm},
		{"\x80\x80\x01", 0, 1 << 14, 3, api.OK},
		{full, 0, 0, 0, api.ErrForm},
		{full[:8] + "\x7f", 0, 1<<63 - 1, 9, api.OK},
		{nine + "\x00", 0, 0, 0, api.ErrForm},
		{full + "\x00", 0, 0, 0, api.ErrForm},
		{nine + "\x01", 0, 1 << 63, 10, api.OK},
		{full + "\x01", 0, 1<<64 - 1, 10, api.OK},
		{nine + "\x02", 0, 0, 0, api.ErrForm},
		{full + "\x02", 0, 0, 0, api.ErrForm},
		{full + "\x03", 0, 0, 0, api.ErrForm},
		{nine + "\x41", 0, 0, 0, api.ErrForm},
		{full + "\x7f", 0, 0, 0, api.ErrForm},
		{nine + "\x80", 0, 0, 0, api.ErrForm},
		{nine + "\x80\x00", 0, 0, 0, api.ErrForm},
		{nine + "\x80\x01", 0, 0, 0, api.ErrForm},
		{nine + "\x80\x01", 1, 1 << 63, 11, api.OK},
		{full + "\x81\x00", 0, 0, 0, api.ErrForm},
		{full + "\x81\x01", 0, 0, 0, api.ErrForm},
		{full + full + "\x01", 0, 0, 0, api.ErrForm},
	} {
		if x, next, e := leb.U([]byte(c.b), c.at); x != c.x || next != c.next || e != c.e {
			t.Errorf("U(%x, %d): %d, %d, %d", c.b, c.at, x, next, e)
		}
	}
}

func TestS(t *testing.T) {
	two := "\xc0\x00\xff"
	nine := strings.Repeat("\x80", 9)
	full := strings.Repeat("\xff", 9)
	for _, c := range []struct {
		b    string
		at   int
		x    int64
		next int
		e    api.Errno
	}{
		{two, 0, 64, 2, api.OK},
		{two, 1, 0, 2, api.OK},
		{"\x00", 0, 0, 1, api.OK},
		{"\x3f", 0, 63, 1, api.OK},
		{"\x40", 0, -64, 1, api.OK},
		{"\x7f", 0, -1, 1, api.OK},
		{"\x80\x00", 0, 0, 0, api.ErrForm},
		{"\xbf\x00", 0, 0, 0, api.ErrForm},
		{"\xbf\x7f", 0, -65, 2, api.OK},
		{"\xc0\x7f", 0, 0, 0, api.ErrForm},
		{"\xff\x7f", 0, 0, 0, api.ErrForm},
		{"\xff\xff\x7f", 0, 0, 0, api.ErrForm},
		{"\x80\xc0\x00", 0, 1 << 13, 3, api.OK},
		{full, 0, 0, 0, api.ErrForm},
		{full[:8] + "\x3f", 0, 1<<62 - 1, 9, api.OK},
		{nine[:8] + "\x40", 0, -1 << 62, 9, api.OK},
		{nine[:8] + "\xc0\x00", 0, 1 << 62, 10, api.OK},
		{full[:8] + "\xbf\x7f", 0, -1<<62 - 1, 10, api.OK},
		{full + "\x00", 0, math.MaxInt64, 10, api.OK},
		{nine + "\x7f", 0, math.MinInt64, 10, api.OK},
		{nine + "\x00", 0, 0, 0, api.ErrForm},
		{full + "\x7f", 0, 0, 0, api.ErrForm},
		{nine + "\x01", 0, 0, 0, api.ErrForm},
		{full + "\x01", 0, 0, 0, api.ErrForm},
		{full + "\x02", 0, 0, 0, api.ErrForm},
		{full + "\x3f", 0, 0, 0, api.ErrForm},
		{nine + "\x40", 0, 0, 0, api.ErrForm},
		{nine + "\x7e", 0, 0, 0, api.ErrForm},
		{nine + "\xff", 0, 0, 0, api.ErrForm},
		{nine + "\xff\x7f", 0, 0, 0, api.ErrForm},
		{full + "\x80\x00", 0, 0, 0, api.ErrForm},
		{full + "\xff\x00", 0, 0, 0, api.ErrForm},
		{full + "\xff\x00", 1, math.MaxInt64, 11, api.OK},
		{nine + nine + "\x7f", 0, 0, 0, api.ErrForm},
	} {
		if x, next, e := leb.S([]byte(c.b), c.at); x != c.x || next != c.next || e != c.e {
			t.Errorf("S(%x, %d): %d, %d, %d", c.b, c.at, x, next, e)
		}
	}
}

func TestPlacesWhereNothingStands(t *testing.T) {
	for _, k := range bothKinds() {
		for _, c := range []struct {
			b  []byte
			at int
			e  api.Errno
		}{
			{[]byte{0x80, 0x01, 0xff}, 2, api.ErrForm},
			{[]byte{0x80, 0x01, 0xff}, 3, api.ErrForm},
			{[]byte{0x80, 0x01, 0xff}, 4, api.ErrArg},
			{[]byte{0x80, 0x01, 0xff}, -1, api.ErrArg},
			{[]byte{0x80, 0x01, 0xff}, math.MaxInt, api.ErrArg},
			{[]byte{0x80, 0x01, 0xff}, math.MinInt, api.ErrArg},
			{[]byte{0x05}, 1, api.ErrForm},
			{[]byte{0x05}, 2, api.ErrArg},
			{[]byte{}, 0, api.ErrForm},
			{nil, 0, api.ErrForm},
			{nil, 1, api.ErrArg},
			{nil, -1, api.ErrArg},
		} {
			k.refuses(t, c.b, c.at, c.e)
		}
	}
}

func TestBytesCutShort(t *testing.T) {
	for _, k := range bothKinds() {
		for _, x := range k.numbers() {
			b := k.put(nil, x)
			for size := range b {
				// The room behind the end holds the rest of it: it does not count.
				k.refuses(t, b[:size], 0, api.ErrForm)
				k.refuses(t, b[:size], size+1, api.ErrArg)
				k.refuses(t, b[:size], -1, api.ErrArg)
			}
		}
	}
}

func TestBytesThatAreNotTheNumbersOwn(t *testing.T) {
	for _, k := range bothKinds() {
		for _, x := range k.numbers() {
			for n := len(k.own(x)) + 1; n <= mostBytes+1; n++ {
				k.refuses(t, written(x, n), 0, api.ErrForm)
			}
		}
	}
}

// Every pair of bytes, and every ninth and tenth byte behind such as stand in numbers of that length, are read as the words say.

func TestReadsOfAnyBytes(t *testing.T) {
	begins := []string{"", "\xff", strings.Repeat("\x80", 8), "\x80\xff\x81\xc0\xbf\xfe\xaa\xd5"}
	for x := range 1 << 16 {
		for _, begin := range begins {
			b := append([]byte(begin), byte(x>>8), byte(x))
			for _, k := range bothKinds() {
				k.readsAsTheWordsSay(t, b, 0)
			}
		}
	}
}

func TestReadsOfAnyBytesAtAnyPlace(t *testing.T) {
	for x := range 1 << 12 {
		b := []byte{byte(x), byte(x >> 2), byte(x >> 4)}
		for at := -2; at <= len(b)+2; at++ {
			for _, k := range bothKinds() {
				k.readsAsTheWordsSay(t, b, at)
			}
		}
	}
}

// What follows

func TestWhatWasPutIsRead(t *testing.T) {
	for _, k := range bothKinds() {
		for _, x := range k.numbers() {
			for _, ahead := range []string{"", "\x00", "\x7f", "\x80", "\xff\xff", "\x80\x80\x80\x80\x80\x80\x80\x80\x80\x80\x80"} {
				for _, behind := range []string{"", "\x00", "\x01", "\x7f", "\x80", "\xff\xff"} {
					b := append(k.put([]byte(ahead), x), behind...)
					k.answers(t, b, len(ahead), x, len(b)-len(behind))
				}
			}
		}
	}
}

func TestNumbersOneBehindTheOther(t *testing.T) {
	for _, k := range bothKinds() {
		var b []byte
		for _, x := range k.numbers() {
			b = k.put(b, x)
		}
		at := 0
		for _, x := range k.numbers() {
			next := at + len(k.own(x))
			k.answers(t, b, at, x, next)
			at = next
		}
		if at != len(b) {
			t.Errorf("%s: %d of %d bytes were read", k.name, at, len(b))
		}
	}
}

func TestWhatIsReadIsPutAsItWas(t *testing.T) {
	for x := range 1 << 16 {
		for _, begin := range []string{"", "\x80", "\xff\xbf", "\x80\x80\x80\x80\x80\x80\x80\x80"} {
			b := append([]byte(begin), byte(x>>8), byte(x))
			for _, k := range bothKinds() {
				n, next, e := k.read(b, 0)
				if e != api.OK {
					continue
				}
				if again := k.put(nil, n); !bytes.Equal(again, b[:next]) {
					t.Errorf("%s of %x: %d, put as %x", k.name, b, n, again)
				}
			}
		}
	}
}

func TestNoBytesBeginOthers(t *testing.T) {
	for _, k := range bothKinds() {
		all := map[string]bool{}
		for _, x := range k.numbers() {
			all[string(k.put(nil, x))] = true
		}
		if len(all) != len(k.numbers()) {
			t.Errorf("%s: %d numbers have %d writings", k.name, len(k.numbers()), len(all))
		}
		for s := range all {
			for size := range len(s) {
				if all[s[:size]] {
					t.Errorf("%s: %x begins %x", k.name, s[:size], s)
				}
			}
		}
	}
}

// R3

func TestPutsLeaveWhatIsHandedIn(t *testing.T) {
	for _, k := range bothKinds() {
		for _, x := range k.numbers() {
			for size := range 3 { // 0 too: an empty list with room behind its end
				whole := []byte{90, 91, 92, 93, 94, 95, 96, 97, 98, 99, 100, 101, 102, 103, 104, 105}
				kept := bytes.Clone(whole)
				out := k.put(whole[:size], x)
				if !bytes.Equal(out[:size], kept[:size]) {
					t.Errorf("Put%s(%d) behind %d bytes: %x", k.name, x, size, out)
				}
				if !bytes.Equal(whole, kept) {
					t.Errorf("Put%s(%d) behind %d bytes changed what was handed in: %x", k.name, x, size, whole)
				}
				overwrite(out)
				if !bytes.Equal(whole, kept) {
					t.Errorf("Put%s(%d) behind %d bytes answers memory of its argument", k.name, x, size)
				}
			}
		}
	}
}

// overwrite fills a list, and the room behind its end.
func overwrite(b []byte) {
	b = b[:cap(b)]
	for i := range b {
		b[i] = 0xee
	}
}

func TestPutsAnswerNewMemoryEachTime(t *testing.T) {
	begin := append(make([]byte, 0, 16), 1)
	first := leb.PutU(begin, 2)
	second := leb.PutU(begin, 3)
	third := leb.PutS(begin, -4)
	overwrite(second)
	if string(first) != "\x01\x02" || string(third) != "\x01\x7c" {
		t.Errorf("one answer changed others: %x, %x", first, third)
	}
}

func TestReadsLeaveWhatIsHandedIn(t *testing.T) {
	whole := []byte("\x80\x01\xff\x7f\xc0\x00\x80\x00\x80\x80")
	kept := bytes.Clone(whole)
	for size := range len(whole) + 1 {
		for at := -1; at <= size+1; at++ {
			leb.U(whole[:size], at)
			leb.S(whole[:size], at)
		}
	}
	if !bytes.Equal(whole, kept) {
		t.Errorf("the reads changed what was handed in: %x", whole)
	}
}

// kind is one of both, its numbers as those of math/big, so that the words can be reckoned as they stand, beyond 64 bits too.
type kind struct {
	name   string
	signed bool
	put    func(b []byte, x *big.Int) []byte
	read   func(b []byte, at int) (*big.Int, int, api.Errno)
}

func bothKinds() []kind {
	return []kind{
		{"U", false,
			func(b []byte, x *big.Int) []byte { return leb.PutU(b, x.Uint64()) },
			func(b []byte, at int) (*big.Int, int, api.Errno) {
				x, next, e := leb.U(b, at)
				return new(big.Int).SetUint64(x), next, e
			}},
		{"S", true,
			func(b []byte, x *big.Int) []byte { return leb.PutS(b, x.Int64()) },
			func(b []byte, at int) (*big.Int, int, api.Errno) {
				x, next, e := leb.S(b, at)
				return big.NewInt(x), next, e
			}},
	}
}

// power is 2^n.
func power(n int) *big.Int { return new(big.Int).Lsh(big.NewInt(1), uint(n)) }

// within: from the least number of so many bits on, of this kind, to the greatest one.
func (k kind) within(x *big.Int, bits int) bool {
	if !k.signed {
		return x.Sign() >= 0 && x.Cmp(power(bits)) < 0
	}
	half := power(bits - 1)
	return x.Cmp(new(big.Int).Neg(half)) >= 0 && x.Cmp(half) < 0
}

// numbers: those around each power of 2, on both sides of 0, that are of this kind; rising in their distance from 0, each once.
func (k kind) numbers() []*big.Int {
	out := []*big.Int{new(big.Int)}
	seen := map[string]bool{"0": true}
	for n := range 65 {
		for more := int64(-2); more <= 2; more++ {
			x := new(big.Int).Add(power(n), big.NewInt(more))
			for _, y := range []*big.Int{x, new(big.Int).Neg(x)} {
				if k.within(y, 64) && !seen[y.String()] {
					seen[y.String()] = true
					out = append(out, y)
				}
			}
		}
	}
	return out
}

// written: a number's bytes, of n of them.
func written(x *big.Int, n int) []byte {
	left := new(big.Int).Mod(x, power(7*n))
	var out []byte
	for range n {
		digit := new(big.Int)
		left.DivMod(left, big.NewInt(128), digit)
		out = append(out, byte(digit.Int64())+128)
	}
	out[n-1] -= 128
	return out
}

// own: a number's bytes, of the least count of them that say it.
func (k kind) own(x *big.Int) []byte {
	for n := 1; n <= mostBytes; n++ {
		if k.within(x, 7*n) && k.within(x, 64) {
			return written(x, n)
		}
	}
	return nil
}

// meant: the number whose own bytes stand at the beginning of b, and how many they are; 0 of them, if there is none.
func (k kind) meant(b []byte) (*big.Int, int) {
	for n := 1; n <= min(mostBytes, len(b)); n++ {
		if b[n-1] >= 128 { // not a last one
			continue
		}
		x := new(big.Int)
		for i := n - 1; i >= 0; i-- {
			x.Add(x.Lsh(x, 7), big.NewInt(int64(b[i]%128)))
		}
		if !k.within(x, 7*n) {
			x.Sub(x, power(7*n))
		}
		if bytes.Equal(k.own(x), b[:n]) {
			return x, n
		}
	}
	return new(big.Int), 0
}

func (k kind) answers(t *testing.T, b []byte, at int, want *big.Int, behind int) {
	t.Helper()
	if x, next, e := k.read(b, at); x.Cmp(want) != 0 || next != behind || e != api.OK {
		t.Errorf("%s(%x, %d): %d, %d, %d, not %d, %d", k.name, b, at, x, next, e, want, behind)
	}
}

func (k kind) refuses(t *testing.T, b []byte, at int, want api.Errno) {
	t.Helper()
	if x, next, e := k.read(b, at); x.Sign() != 0 || next != 0 || e != want {
		t.Errorf("%s(%x, %d): %d, %d, %d, not error %d", k.name, b, at, x, next, e, want)
	}
}

func (k kind) readsAsTheWordsSay(t *testing.T, b []byte, at int) {
	t.Helper()
	if at < 0 || at > len(b) {
		k.refuses(t, b, at, api.ErrArg)
		return
	}
	if x, n := k.meant(b[at:]); n > 0 {
		k.answers(t, b, at, x, at+n)
	} else {
		k.refuses(t, b, at, api.ErrForm)
	}
}
