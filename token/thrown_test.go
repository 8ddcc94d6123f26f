package token_test

import (
	"math"
	"math/big"
	"slices"
	"strings"
	"testing"

	"theodolite/api"
	"theodolite/token"
)

// thrown is a token, which looks thrown, without its line.
func thrown(next func(int) int) api.Token {
	const letters = "abcdefghijklmnopqrstuvwxyzABCDEFGHIJKLMNOPQRSTUVWXYZ_"
	switch next(4) {
	case 0:
		return word(0, allWords()[next(14)])
	case 1:
		n := int64(next(1<<31))<<32 | int64(next(1<<31))
		return number(0, []int64{int64(next(12)), n >> next(63), math.MaxInt64 - int64(next(3))}[next(3)])
	case 2:
		return sign(0, allSigns()[next(24)])
	}
	for {
		b := []byte{letters[next(len(letters))]}
		for range next(api.MaxName) {
			b = append(b, (letters + "0123456789")[next(len(letters)+10)])
		}
		if !slices.Contains(allWords(), string(b)) {
			return name(0, string(b))
		}
	}
}

// blank is one or more of them, which look thrown.
func blank(next func(int) int) string {
	few := []string{" ", "\t", "\r", "\n", "\r\n", "//\n", "// a\n", "//\x00\xff#\r\n", "  ", "\n\n"}
	s := ""
	for range 1 + next(3) {
		s += few[next(len(few))]
	}
	return s
}

// laid is tokens one behind the other with blanks between, each token with the line in which it stands.
func laid(next func(int) int, l []api.Token) (src string, at []api.Token) {
	if next(2) > 0 {
		src = blank(next)
	}
	for _, t := range l {
		t.Line = 1 + strings.Count(src, "\n")
		at = append(at, t)
		src += t.Text
		if t.Text == "/" { // of three / the first two begin a remark
			src += " "
		}
		src += blank(next)
	}
	return src, at
}

func some(next func(int) int) []api.Token {
	l := make([]api.Token, next(20))
	for i := range l {
		l[i] = thrown(next)
	}
	return l
}

// Tokens that are laid one behind the other with blanks between are scanned to the same tokens; blanks more turn nothing but lines.
func TestTokensThatAreLaid(t *testing.T) {
	next := dice(1)
	for range 4000 {
		l := some(next)
		for range 2 {
			src, at := laid(next, l)
			isAsTheWordsSay(t, src)
			isScanned(t, src, at...)
		}
	}
}

// Each of two tokens goes with each other one, with a blank between and, as the words say, without one.
func TestEachTwoTokens(t *testing.T) {
	all := append(append(allWords(), allSigns()...), "a", "_", "Z9", "ifa", "0", "7", "10", "9223372036854775807", strings.Repeat("n", api.MaxName))
	for _, a := range all {
		for _, b := range all {
			isAsTheWordsSay(t, a+b)
			x, _, _ := told(a)
			y, _, _ := told(b)
			isScanned(t, a+" "+b, append(x, y...)...)
			if a != "/" { // of three / the first two begin a remark
				isScanned(t, a+"//\n"+b, append(x, api.Token{Kind: y[0].Kind, Text: b, Num: y[0].Num, Line: 2})...)
			}
			for _, c := range []string{"=", "/", "a", "0", "&", "|", " "} {
				isAsTheWordsSay(t, a+b+c)
			}
		}
	}
}

// A source's beginning up to a token's end has the tokens up to that one.
func TestBeginnings(t *testing.T) {
	next := dice(2)
	for range 1500 {
		src, at := laid(next, some(next))
		from := 0
		for i, x := range at {
			from = max(0, place(src, x, from)) + len(x.Text)
			isScanned(t, src[:from], at[:i+1]...)
		}
		for range 8 {
			isAsTheWordsSay(t, src[:next(len(src)+1)])
		}
	}
}

// place is where a token stands in a source, from a place on, behind blanks; below 0, if it does not stand there.
func place(src string, x api.Token, from int) int {
	from += len(blanks.FindString(src[from:]))
	if !strings.HasPrefix(src[from:], x.Text) {
		return -1
	}
	return from
}

// Whatever is scanned: the texts are the source's own bytes, in order, with nothing but blanks between, and each has what its kind has alone.
func TestWhatTokensHave(t *testing.T) {
	next := dice(3)
	for range 3000 {
		src := pieces(next, 12)
		l, line, e := token.Scan([]byte(src))
		if e != api.OK {
			if e != api.ErrLex || len(l) != 0 || line < 1 || line > 1+strings.Count(src, "\n") {
				t.Fatalf("Scan(%q): %v, %d, error %d", src, l, line, e)
			}
			continue
		}
		from := 0
		for _, x := range l {
			at := place(src, x, from)
			if at < 0 || x.Line != 1+strings.Count(src[:at], "\n") || x.Kind < api.TokName || x.Kind > api.TokSign || x.Kind != api.TokNum && x.Num != 0 || x.Kind == api.TokNum && big.NewInt(x.Num).String() != x.Text {
				t.Fatalf("Scan(%q): %v", src, l)
			}
			from = at + len(x.Text)
		}
		if from+len(blanks.FindString(src[from:])) != len(src) {
			t.Fatalf("Scan(%q): %v, and more", src, l)
		}
	}
}

// pieces is pieces of sources, one behind the other, that look thrown.
func pieces(next func(int) int, most int) string {
	few := []string{"a", "if", "x1", "0", "7", "10", "&&", "||", "=", "==", "<", ">=", "!", "/", "//", "(", ")", ";", " ", " ", " ", "\n", "\n", "\t", "\r", "&", "|", "#", "\x00", "\xff", "9223372036854775807", "9223372036854775808", "nnnnnnnnnnnnnnnnnnnnnnnn", "_"}
	s := ""
	for range next(most) {
		s += few[next(len(few))]
	}
	return s
}

func TestPieces(t *testing.T) {
	next := dice(4)
	right := 0
	for range 40000 {
		if isAsTheWordsSay(t, pieces(next, 14)) {
			right++
		}
	}
	if right < 5000 || right > 35000 {
		t.Errorf("%d of 40000 were right: not both sorts were tried", right)
	}
}

// One byte of a right source's is another one, too many, or missing.
func TestOneByteTurned(t *testing.T) {
	next := dice(5)
	right := 0
	for range 1000 {
		src, _ := laid(next, some(next))
		if src == "" {
			continue
		}
		for range 8 {
			i := next(len(src))
			x := string([]byte{byte(next(256))})
			for _, s := range []string{src[:i] + x + src[i+1:], src[:i] + x + src[i:], src[:i] + src[i+1:]} {
				if isAsTheWordsSay(t, s) {
					right++
				}
			}
		}
	}
	if right < 5000 || right > 20000 {
		t.Errorf("%d were right: not both sorts were tried", right)
	}
}

func TestAllSourcesOfTwoBytes(t *testing.T) {
	for x := range 256 {
		isAsTheWordsSay(t, string([]byte{byte(x)}))
		for y := range 256 {
			isAsTheWordsSay(t, string([]byte{byte(x), byte(y)}))
		}
	}
}

func TestAllShortSourcesOfFewBytes(t *testing.T) {
	few := "a_Z09 \t\r\n&|=!<>(){}[],;.+-*/%#\x00\x80"
	for _, x := range []byte(few) {
		for _, y := range []byte(few) {
			for _, z := range []byte(few) {
				isAsTheWordsSay(t, string([]byte{x, y, z}))
			}
		}
	}
	for n := range 1 << 14 {
		b := make([]byte, 7)
		for i := range b {
			b[i] = "a0/\n"[n>>(2*i)&3]
		}
		isAsTheWordsSay(t, string(b))
		for i := range b {
			b[i] = "=<& "[n>>(2*i)&3]
		}
		isAsTheWordsSay(t, string(b))
	}
}

// W5: any bytes end.
func TestAnyBytes(t *testing.T) {
	next := dice(6)
	for range 20000 {
		b := make([]byte, next(40))
		for i := range b {
			b[i] = byte(next(256))
			if next(3) > 0 {
				b[i] &= 0x7f
			}
		}
		isAsTheWordsSay(t, string(b))
	}
}

func TestLongSources(t *testing.T) {
	next := dice(7)
	for range 20 {
		src := ""
		for len(src) < api.MaxSource-200 {
			l, _ := laid(next, some(next))
			src += l
			if len(src) > api.MaxSource {
				break
			}
		}
		isAsTheWordsSay(t, src)
		isAsTheWordsSay(t, src+"#")
		isAsTheWordsSay(t, src+strings.Repeat(" ", max(0, api.MaxSource-len(src))))
		isAsTheWordsSay(t, src+strings.Repeat(" ", max(0, api.MaxSource-len(src)))+" ")
	}
}
