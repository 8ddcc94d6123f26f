package octet_test

import (
	"bytes"
	"math"
	"strings"
	"testing"

	"theodolite/api"
	"theodolite/octet"
)

const lastPlace = 1<<24 - 1

// P1.1

func TestPairTellsTwoHalves(t *testing.T) {
	for high := range 16 {
		for low := range 16 {
			x, fine := octet.Pair(high, low)
			if int(x) != high*16+low || !fine {
				t.Errorf("Pair(%d, %d): %#x, %v", high, low, x, fine)
			}
		}
	}
}

func TestPairRefusesWhatIsNoHalf(t *testing.T) {
	for _, wrong := range []int{-1, 16, 17, -16, 255, 256, -256, math.MinInt, math.MaxInt} {
		for _, other := range []int{0, 1, 7, 15, -1, 16, wrong} {
			if x, fine := octet.Pair(wrong, other); x != 0 || fine {
				t.Errorf("Pair(%d, %d): %#x, %v", wrong, other, x, fine)
			}
			if x, fine := octet.Pair(other, wrong); x != 0 || fine {
				t.Errorf("Pair(%d, %d): %#x, %v", other, wrong, x, fine)
			}
		}
	}
}

func TestHalves(t *testing.T) {
	for _, c := range []struct {
		x         byte
		high, low int
	}{{0x00, 0, 0}, {0x0f, 0, 15}, {0x10, 1, 0}, {0x12, 1, 2}, {0xf0, 15, 0}, {0xf3, 15, 3}, {0xff, 15, 15}} {
		if high, low := octet.Halves(c.x); high != c.high || low != c.low {
			t.Errorf("Halves(%#x): %d, %d", c.x, high, low)
		}
	}
}

func TestEachByteIsThePairOfItsHalves(t *testing.T) {
	for x := range 256 {
		high, low := octet.Halves(byte(x))
		if back, fine := octet.Pair(high, low); back != byte(x) || !fine {
			t.Errorf("Pair of Halves(%#x): %#x, %v", x, back, fine)
		}
	}
}

// P1.2

func TestOne(t *testing.T) {
	five := []byte{5}
	three := []byte{0, 255, 9}
	for _, c := range []struct {
		b        []byte
		at, next int
		x        byte
		e        api.Errno
	}{
		{five, 0, 1, 5, api.OK},
		{five, 1, 0, 0, api.ErrForm},
		{five, 2, 0, 0, api.ErrArg},
		{five, -1, 0, 0, api.ErrArg},
		{three, 0, 1, 0, api.OK},
		{three, 1, 2, 255, api.OK},
		{three, 2, 3, 9, api.OK},
		{three, 3, 0, 0, api.ErrForm},
		{three, 4, 0, 0, api.ErrArg},
		{three, math.MaxInt, 0, 0, api.ErrArg},
		{three, math.MinInt, 0, 0, api.ErrArg},
		{nil, 0, 0, 0, api.ErrForm},
		{[]byte{}, 0, 0, 0, api.ErrForm},
		{nil, 1, 0, 0, api.ErrArg},
		{nil, -1, 0, 0, api.ErrArg},
	} {
		if x, next, e := octet.One(c.b, c.at); x != c.x || next != c.next || e != c.e {
			t.Errorf("One(%x, %d): %d, %d, %d", c.b, c.at, x, next, e)
		}
	}
}

func TestPlace(t *testing.T) {
	small := []byte{0, 1, 2}
	long := []byte{0xff, 0xff, 0xff, 0x80, 0x00, 0x01}
	for _, c := range []struct {
		b           []byte
		at, n, next int
		e           api.Errno
	}{
		{small, 0, 258, 3, api.OK},
		{small, 1, 0, 0, api.ErrForm},
		{small, 2, 0, 0, api.ErrForm},
		{small, 3, 0, 0, api.ErrForm},
		{small, 4, 0, 0, api.ErrArg},
		{small, -1, 0, 0, api.ErrArg},
		{small, -3, 0, 0, api.ErrArg},
		{long, 0, lastPlace, 3, api.OK},
		{long, 1, 0xffff80, 4, api.OK},
		{long, 3, 0x800001, 6, api.OK},
		{long, 4, 0, 0, api.ErrForm},
		{long, math.MaxInt, 0, 0, api.ErrArg},
		{long, math.MaxInt - 2, 0, 0, api.ErrArg},
		{long, math.MinInt, 0, 0, api.ErrArg},
		{[]byte{0, 0, 0}, 0, 0, 3, api.OK},
		{nil, 0, 0, 0, api.ErrForm},
		{nil, 1, 0, 0, api.ErrArg},
	} {
		if n, next, e := octet.Place(c.b, c.at); n != c.n || next != c.next || e != c.e {
			t.Errorf("Place(%x, %d): %d, %d, %d", c.b, c.at, n, next, e)
		}
	}
}

func TestText(t *testing.T) {
	b := []byte{7, 2, 'a', 'b'}
	for _, c := range []struct {
		b        []byte
		at, next int
		s        string
		e        api.Errno
	}{
		{b, 1, 4, "ab", api.OK},
		{b, 0, 0, "", api.ErrForm},
		{b, 2, 0, "", api.ErrForm},
		{b, 4, 0, "", api.ErrForm},
		{b, 5, 0, "", api.ErrArg},
		{b, -1, 0, "", api.ErrArg},
		{b, math.MaxInt, 0, "", api.ErrArg},
		{b, math.MinInt, 0, "", api.ErrArg},
		{[]byte{0}, 0, 1, "", api.OK},
		{[]byte{9, 0, 9}, 1, 2, "", api.OK},
		{[]byte{1}, 0, 0, "", api.ErrForm},
		{[]byte{1, 'x'}, 0, 2, "x", api.OK},
		{[]byte{2, 'x'}, 0, 0, "", api.ErrForm},
		{[]byte{3, 0xff, 0, 0x80, 'y'}, 0, 4, "\xff\x00\x80", api.OK},
		{nil, 0, 0, "", api.ErrForm},
		{nil, 1, 0, "", api.ErrArg},
	} {
		if s, next, e := octet.Text(c.b, c.at); s != c.s || next != c.next || e != c.e {
			t.Errorf("Text(%x, %d): %q, %d, %d", c.b, c.at, s, next, e)
		}
	}
}

func TestTextOfEachLengthCutShort(t *testing.T) {
	for size := range 256 {
		want := strings.Repeat("z", size)
		b := append([]byte{byte(size)}, want...)
		if s, next, e := octet.Text(b, 0); s != want || next != size+1 || e != api.OK {
			t.Errorf("Text of %d bytes: %q, %d, %d", size, s, next, e)
		}
		// The room behind the end holds the rest of it: it does not count.
		if s, next, e := octet.Text(b[:size], 0); s != "" || next != 0 || e != api.ErrForm {
			t.Errorf("Text of %d bytes, cut: %q, %d, %d", size, s, next, e)
		}
	}
}

func TestPlaceDoesNotReadBehindTheEnd(t *testing.T) {
	b := []byte{1, 2, 3, 4}
	for size := range 3 {
		if n, next, e := octet.Place(b[:size], 0); n != 0 || next != 0 || e != api.ErrForm {
			t.Errorf("Place of %d bytes: %d, %d, %d", size, n, next, e)
		}
	}
	if x, next, e := octet.One(b[:1], 1); x != 0 || next != 0 || e != api.ErrForm {
		t.Errorf("One behind the end: %d, %d, %d", x, next, e)
	}
}

// P1.3

func TestPutPlace(t *testing.T) {
	for _, c := range []struct {
		b    string
		n    int
		want string
		e    api.Errno
	}{
		{"\xff", 258, "\xff\x00\x01\x02", api.OK},
		{"\xff", 1 << 24, "", api.ErrArg},
		{"\xff", -1, "", api.ErrArg},
		{"", -1, "", api.ErrArg},
		{"", 0, "\x00\x00\x00", api.OK},
		{"", 1, "\x00\x00\x01", api.OK},
		{"", 255, "\x00\x00\xff", api.OK},
		{"", 256, "\x00\x01\x00", api.OK},
		{"", 1 << 16, "\x01\x00\x00", api.OK},
		{"", 0x123456, "\x12\x34\x56", api.OK},
		{"", lastPlace, "\xff\xff\xff", api.OK},
		{"ab", lastPlace - 1, "ab\xff\xff\xfe", api.OK},
		{"ab", 1<<24 + 1, "", api.ErrArg},
		{"ab", 1 << 32, "", api.ErrArg},
		{"ab", math.MaxInt, "", api.ErrArg},
		{"ab", math.MinInt, "", api.ErrArg},
	} {
		if b, e := octet.PutPlace([]byte(c.b), c.n); string(b) != c.want || e != c.e {
			t.Errorf("PutPlace(%x, %d): %x, %d", c.b, c.n, b, e)
		}
	}
	if b, e := octet.PutPlace(nil, 258); string(b) != "\x00\x01\x02" || e != api.OK {
		t.Errorf("PutPlace(nil, 258): %x, %d", b, e)
	}
}

func TestPutText(t *testing.T) {
	full := strings.Repeat("x", 255)
	for _, c := range []struct {
		b, s, want string
		e          api.Errno
	}{
		{"\x07", "ab", "\x07\x02ab", api.OK},
		{"", "", "\x00", api.OK},
		{"\x07", "", "\x07\x00", api.OK},
		{"", "a", "\x01a", api.OK},
		{"", "\xff\x00", "\x02\xff\x00", api.OK},
		{"", full[:254], "\xfe" + full[:254], api.OK},
		{"q", full, "q\xff" + full, api.OK},
		{"q", full + "x", "", api.ErrArg},
		{"", full + "x", "", api.ErrArg},
		{"", full + full, "", api.ErrArg},
		// The bytes count, not the signs: 128 signs of two bytes are too many.
		{"", strings.Repeat("é", 128), "", api.ErrArg},
		{"", strings.Repeat("é", 127), "\xfe" + strings.Repeat("é", 127), api.OK},
	} {
		if b, e := octet.PutText([]byte(c.b), c.s); string(b) != c.want || e != c.e {
			t.Errorf("PutText(%q, %q): %q, %d", c.b, c.s, b, e)
		}
	}
	if b, e := octet.PutText(nil, "ab"); string(b) != "\x02ab" || e != api.OK {
		t.Errorf("PutText(nil, ab): %x, %d", b, e)
	}
}

func TestRefusedPutsAnswerNoBytes(t *testing.T) {
	if b, e := octet.PutPlace([]byte{1, 2}, -1); b != nil || e != api.ErrArg {
		t.Errorf("PutPlace: %x, %d", b, e)
	}
	if b, e := octet.PutText([]byte{1, 2}, strings.Repeat("x", 256)); b != nil || e != api.ErrArg {
		t.Errorf("PutText: %x, %d", b, e)
	}
}

// What follows

func TestWhatIsPutIsReadInOrder(t *testing.T) {
	places := []int{0, 1, 255, 256, 258, 65535, 65536, 1 << 23, lastPlace - 1, lastPlace}
	texts := []string{"", "a", "main", "\x00\xff", strings.Repeat("y", 254), strings.Repeat("y", 255)}
	var b []byte
	for _, n := range places {
		for _, s := range texts {
			b = mustPut(t, b, n, s)
		}
	}
	at := 0
	for _, n := range places {
		for _, s := range texts {
			at = mustRead(t, b, at, n, s)
		}
	}
	if at != len(b) {
		t.Errorf("read to %d of %d", at, len(b))
	}
}

func mustPut(t *testing.T, b []byte, n int, s string) []byte {
	t.Helper()
	b, e := octet.PutPlace(b, n)
	if e != api.OK {
		t.Fatalf("PutPlace(%d): %d", n, e)
	}
	b, e = octet.PutText(b, s)
	if e != api.OK {
		t.Fatalf("PutText(%q): %d", s, e)
	}
	return b
}

func mustRead(t *testing.T, b []byte, at, n int, s string) int {
	t.Helper()
	gotPlace, next, e := octet.Place(b, at)
	if gotPlace != n || next != at+3 || e != api.OK {
		t.Fatalf("Place at %d: %d, %d, %d", at, gotPlace, next, e)
	}
	size, _, e := octet.One(b, next)
	if int(size) != len(s) || e != api.OK {
		t.Fatalf("One at %d: %d, %d", next, size, e)
	}
	gotText, end, e := octet.Text(b, next)
	if gotText != s || end != next+1+len(s) || e != api.OK {
		t.Fatalf("Text at %d: %q, %d, %d", next, gotText, end, e)
	}
	return end
}

func TestLesserPlacesStandAhead(t *testing.T) {
	var last []byte
	for n := 0; n <= lastPlace; n += 4099 { // not a power of two: all three bytes vary
		b, e := octet.PutPlace(nil, n)
		if e != api.OK || bytes.Compare(last, b) >= 0 {
			t.Fatalf("PutPlace(nil, %d): %x, %d, behind %x", n, b, e, last)
		}
		if back, _, _ := octet.Place(b, 0); back != n {
			t.Fatalf("Place of %x: %d, not %d", b, back, n)
		}
		last = b
	}
}

// R3

func TestPutsLeaveWhatIsHandedIn(t *testing.T) {
	puts := map[string]func(b []byte) ([]byte, api.Errno){
		"PutPlace": func(b []byte) ([]byte, api.Errno) { return octet.PutPlace(b, 0x010203) },
		"PutText":  func(b []byte) ([]byte, api.Errno) { return octet.PutText(b, "abc") },
	}
	for name, put := range puts {
		for size := range 4 { // 0 too: an empty list with room behind its end
			whole := []byte{90, 91, 92, 93, 94, 95, 96, 97, 98, 99}
			kept := bytes.Clone(whole)
			out, e := put(whole[:size])
			if e != api.OK || !bytes.Equal(out[:size], kept[:size]) {
				t.Errorf("%s behind %d bytes: %x, %d", name, size, out, e)
			}
			if !bytes.Equal(whole, kept) {
				t.Errorf("%s behind %d bytes changed what was handed in: %x", name, size, whole)
			}
			overwrite(out)
			if !bytes.Equal(whole, kept) {
				t.Errorf("%s behind %d bytes answers memory of its argument", name, size)
			}
		}
	}
}

// overwrite fills a list, and the room behind its end.
func overwrite(b []byte) {
	b = b[:cap(b)]
	for i := range b {
		b[i] = 0xee
	}
}

func TestPutsAnswerNewMemoryEachTime(t *testing.T) {
	begin := append(make([]byte, 0, 16), 1)
	first, _ := octet.PutPlace(begin, 2)
	second, _ := octet.PutPlace(begin, 3)
	third, _ := octet.PutText(begin, "d")
	overwrite(second)
	if string(first) != "\x01\x00\x00\x02" || string(third) != "\x01\x01d" {
		t.Errorf("one answer changed others: %x, %x", first, third)
	}
}

func TestReadsLeaveWhatIsHandedIn(t *testing.T) {
	b := []byte{0, 2, 'a', 'b', 0, 3, 'c'}
	kept := bytes.Clone(b)
	s, _, _ := octet.Text(b, 1)
	for at := -1; at <= len(b)+1; at++ {
		octet.One(b, at)
		octet.Place(b, at)
		octet.Text(b, at)
	}
	if !bytes.Equal(b, kept) {
		t.Errorf("the reads changed what was handed in: %x", b)
	}
	overwrite(b)
	if s != "ab" {
		t.Errorf("a text changed with the bytes that it was read from: %q", s)
	}
}

// R1, W5: every place of every short list of bytes.

func TestReadsOfAnyBytesEnd(t *testing.T) {
	for x := range 1 << 16 {
		b := []byte{byte(x), byte(x >> 8), byte(x >> 4)}
		for at := -1; at <= len(b)+1; at++ {
			checkRead(t, b, at)
		}
	}
}

// checkRead asks what holds for every read: the error that at and the length demand, and nothing beside it, or a place in b that lies behind at.
func checkRead(t *testing.T, b []byte, at int) {
	t.Helper()
	x, oneNext, oneErr := octet.One(b, at)
	n, placeNext, placeErr := octet.Place(b, at)
	s, textNext, textErr := octet.Text(b, at)
	out := at < 0 || at > len(b)
	for _, e := range []api.Errno{oneErr, placeErr, textErr} {
		if out != (e == api.ErrArg) || e != api.OK && e != api.ErrArg && e != api.ErrForm {
			t.Fatalf("%x at %d: %d, %d, %d", b, at, oneErr, placeErr, textErr)
		}
	}
	if oneErr != api.OK && (x != 0 || oneNext != 0) || oneErr == api.OK && oneNext != at+1 {
		t.Fatalf("One(%x, %d): %d, %d, %d", b, at, x, oneNext, oneErr)
	}
	if placeErr != api.OK && (n != 0 || placeNext != 0) || placeErr == api.OK && placeNext != at+3 {
		t.Fatalf("Place(%x, %d): %d, %d, %d", b, at, n, placeNext, placeErr)
	}
	if textErr != api.OK && (s != "" || textNext != 0) || textErr == api.OK && (len(s) != int(x) || textNext != at+1+len(s)) {
		t.Fatalf("Text(%x, %d): %q, %d, %d", b, at, s, textNext, textErr)
	}
}
