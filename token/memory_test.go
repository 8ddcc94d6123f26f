package token_test

import (
	"slices"
	"testing"

	"theodolite/api"
	"theodolite/token"
)

// R3: what is handed in is not changed, and not looked at again; what is answered is in memory of its own.

const sample = "if a1 <= 250 { // c\n\tprint(-b); }\n"

func sampled() []api.Token {
	return []api.Token{
		word(1, "if"), name(1, "a1"), sign(1, "<="), number(1, 250), sign(1, "{"),
		word(2, "print"), sign(2, "("), sign(2, "-"), name(2, "b"), sign(2, ")"), sign(2, ";"), sign(2, "}"),
	}
}

func TestWhatIsHandedInIsNotChanged(t *testing.T) {
	for _, s := range []string{sample, "a #", "1a", "007", "// \x00", ""} {
		all := []byte(s + "more & more")
		kept := slices.Clone(all)
		for size := range len(all) + 1 {
			token.Scan(all[:size])
			if !slices.Equal(all, kept) {
				t.Fatalf("%d bytes of %q: what was handed in was changed: %q", size, kept, all)
			}
		}
	}
}

// What is behind a list's end says nothing, even if it would make more of what stands ahead of it.
func TestWhatIsBehindTheEnd(t *testing.T) {
	for _, c := range []struct{ s, more string }{{"a", "b"}, {"a", "1"}, {"1", "2"}, {"1", "a"}, {"0", "7"}, {"9223372036854775807", "0"}, {"<", "="}, {"=", "="}, {"!", "="}, {"/", "/"}, {"&&", "&"}, {"i", "f"}, {"", "#"}, {"a//", "\n#"}, {"nnnnnnnnnnnnnnnnnnnnnnnn", "n"}} {
		all := []byte(c.s + c.more)
		l, line, e := token.Scan(all[:len(c.s)])
		want, _, _ := told(c.s)
		if !slices.Equal(l, want) || line != 0 || e != api.OK {
			t.Errorf("Scan(%q), with %q behind its end: %v, %d, error %d", c.s, c.more, l, line, e)
		}
	}
	for _, c := range []struct{ s, more string }{{"&", "&"}, {"|", "|"}} {
		all := []byte(c.s + c.more)
		if l, line, e := token.Scan(all[:1]); len(l) != 0 || line != 1 || e != api.ErrLex {
			t.Errorf("Scan(%q), with %q behind its end: %v, %d, error %d", c.s, c.more, l, line, e)
		}
	}
}

func TestWhatTheCallerChangesLater(t *testing.T) {
	src := []byte(sample)
	l, _, _ := token.Scan(src)
	for i := range src {
		src[i] = '#'
	}
	if !slices.Equal(l, sampled()) {
		t.Errorf("an answer was changed: %v", l)
	}
}

func TestAnswersAreNotOne(t *testing.T) {
	src := []byte(sample)
	first, _, _ := token.Scan(src)
	second, _, _ := token.Scan(src)
	all := second[:cap(second)]
	for i := range all {
		all[i] = api.Token{Kind: 99, Text: "spoilt"}
	}
	third, _, _ := token.Scan(src)
	if !slices.Equal(first, sampled()) || !slices.Equal(third, sampled()) || string(src) != sample {
		t.Errorf("two answers are one: %v, %v, %q", first, third, src)
	}
}

// R5: an answer hangs on the source alone, whatever was scanned ahead of it.
func TestOneAnswerEachTime(t *testing.T) {
	for _, ahead := range []string{"", "\n\n\n", "#", "1a", "a b c", "//", sample} {
		token.Scan([]byte(ahead))
		isScanned(t, sample, sampled()...)
		isWrong(t, "a\n#", 2)
	}
}
