package token

import (
	"strconv"
	"strings"

	"theodolite/api"
)

const longest = 2 // bytes of a sign

var signs = [...]string{
	"(", ")", "{", "}", "[", "]", ",", ";", ".", "=",
	"+", "-", "*", "/", "%", "!", "&&", "||",
	"<", "<=", ">", ">=", "==", "!=",
}

// words are the names that a program can't give.
func words() map[string]struct{} {
	return map[string]struct{}{
		"type": {}, "struct": {}, "func": {}, "var": {}, "if": {}, "else": {}, "for": {},
		"return": {}, "print": {}, "input": {}, "int": {}, "bool": {}, "true": {}, "false": {},
	}
}

// first is the token with which a text begins, its line still to be told; false, if it begins with none, or with one that may not be. The text is not empty.
func first(text string, known map[string]struct{}) (api.Token, bool) {
	switch c := text[0]; {
	case letter(c):
		return name(text, known)
	case digit(c):
		return number(text)
	}
	return sign(text)
}

func name(text string, known map[string]struct{}) (api.Token, bool) {
	s := text[:ahead(text, func(c byte) bool { return letter(c) || digit(c) })]
	if len(s) > api.MaxName {
		return api.Token{}, false
	}
	if _, is := known[s]; is {
		return api.Token{Kind: api.TokWord, Text: s}, true
	}
	return api.Token{Kind: api.TokName, Text: s}, true
}

func number(text string) (api.Token, bool) {
	s := text[:ahead(text, digit)]
	behind := text[len(s):]
	if behind != "" && letter(behind[0]) || s[0] == '0' && s != "0" {
		return api.Token{}, false
	}
	n, err := strconv.ParseInt(s, 10, 64)
	if err != nil { // these are digits, so all that it can be is too much
		return api.Token{}, false
	}
	return api.Token{Kind: api.TokNum, Text: s, Num: n}, true
}

func sign(text string) (api.Token, bool) {
	fits := ""
search:
	for size := longest; size > 0; size-- {
		for _, s := range signs {
			if len(s) == size && strings.HasPrefix(text, s) {
				fits = s
				break search
			}
		}
	}
	return api.Token{Kind: api.TokSign, Text: fits}, fits != ""
}

func letter(c byte) bool { return c >= 'a' && c <= 'z' || c >= 'A' && c <= 'Z' || c == '_' }

func digit(c byte) bool { return c >= '0' && c <= '9' }
