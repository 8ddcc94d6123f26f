package token_test

import (
	"math/big"
	"regexp"
	"slices"
	"strings"
	"testing"

	"theodolite/api"
	"theodolite/token"
)

// The chapter's words once more: each kind is a pattern here, and numbers have no bounds.

var (
	blanks  = regexp.MustCompile(`^(?:[ \t\r\n]|//[^\n]*)*`)
	names   = regexp.MustCompile(`^[a-zA-Z_][a-zA-Z_0-9]*`)
	numbers = regexp.MustCompile(`^[0-9]+`)
	letters = regexp.MustCompile(`^[a-zA-Z_]`)
	longOne = regexp.MustCompile(`^(?:&&|\|\||==|!=|<=|>=)`)
	oneSign = regexp.MustCompile(`^[(){}\[\],;.=+\-*/%<>!]`)
)

func allWords() []string {
	return strings.Fields("type struct func var if else for return print input int bool true false")
}

func allSigns() []string {
	return strings.Fields("&& || == != <= >= ( ) { } [ ] , ; . = + - * / % < > !")
}

// stands is the token that stands at the beginning of a text, without its line; of none its kind is 0.
func stands(text string) (none api.Token) {
	if s := names.FindString(text); s != "" {
		kind := api.TokName
		if slices.Contains(allWords(), s) {
			kind = api.TokWord
		}
		if len(s) > 24 {
			return none
		}
		return api.Token{Kind: kind, Text: s}
	}
	if s := numbers.FindString(text); s != "" {
		n, _ := new(big.Int).SetString(s, 10)
		if letters.MatchString(text[len(s):]) || n.String() != s || !n.IsInt64() {
			return none
		}
		return api.Token{Kind: api.TokNum, Text: s, Num: n.Int64()}
	}
	for _, kind := range []*regexp.Regexp{longOne, oneSign} {
		if s := kind.FindString(text); s != "" {
			return api.Token{Kind: api.TokSign, Text: s}
		}
	}
	return none
}

// told is what the words say of a source.
func told(src string) (l []api.Token, line int, e api.Errno) {
	if len(src) > 1<<14 {
		return nil, 0, api.ErrDeep
	}
	at := len(blanks.FindString(src))
	for at < len(src) {
		t := stands(src[at:])
		t.Line = 1 + strings.Count(src[:at], "\n")
		if t.Kind == 0 {
			return nil, t.Line, api.ErrLex
		}
		l = append(l, t)
		at += len(t.Text)
		at += len(blanks.FindString(src[at:]))
	}
	return l, 0, api.OK
}

// What is asked of the call.

// isScanned: a source has just these tokens.
func isScanned(t *testing.T, src string, want ...api.Token) {
	t.Helper()
	if l, line, e := token.Scan([]byte(src)); !slices.Equal(l, want) || line != 0 || e != api.OK {
		t.Errorf("Scan(%q): %v, %d, error %d, not %v", short(src), few(l), line, e, few(want))
	}
}

// isWrong: in that line of a source no token stands.
func isWrong(t *testing.T, src string, want int) {
	t.Helper()
	if l, line, e := token.Scan([]byte(src)); len(l) != 0 || line != want || e != api.ErrLex {
		t.Errorf("Scan(%q): %v, %d, error %d, not %d, error %d", short(src), few(l), line, e, want, api.ErrLex)
	}
}

func isTooLong(t *testing.T, src string) {
	t.Helper()
	if l, line, e := token.Scan([]byte(src)); len(l) != 0 || line != 0 || e != api.ErrDeep {
		t.Errorf("Scan(%q), of %d bytes: %v, %d, error %d, not error %d", short(src), len(src), few(l), line, e, api.ErrDeep)
	}
}

// isAsTheWordsSay tells as well whether the source has tokens. It is asked of very many: the first one that is not is enough.
func isAsTheWordsSay(t *testing.T, src string) bool {
	t.Helper()
	want, at, err := told(src)
	l, line, e := token.Scan([]byte(src))
	if !slices.Equal(l, want) || line != at || e != err {
		t.Fatalf("Scan(%q): %v, %d, error %d, not %v, %d, error %d", short(src), few(l), line, e, few(want), at, err)
	}
	return e == api.OK
}

func few(l []api.Token) []api.Token { return l[:min(len(l), 12)] }

func short(s string) string { return s[:min(len(s), 80)] }

// dice answers numbers below n that look thrown, the same ones each time.
func dice(seed uint64) func(n int) int {
	return func(n int) int {
		seed = seed*6364136223846793005 + 1442695040888963407
		return int(seed >> 33 % uint64(n))
	}
}

func name(line int, s string) api.Token { return api.Token{Kind: api.TokName, Text: s, Line: line} }

func word(line int, s string) api.Token { return api.Token{Kind: api.TokWord, Text: s, Line: line} }

func sign(line int, s string) api.Token { return api.Token{Kind: api.TokSign, Text: s, Line: line} }

func number(line int, n int64) api.Token {
	return api.Token{Kind: api.TokNum, Text: big.NewInt(n).String(), Num: n, Line: line}
}
