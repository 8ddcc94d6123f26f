package token_test

import (
	"math"
	"strings"
	"testing"

	"theodolite/api"
	"theodolite/token"
)

// P11.1

func TestExamples(t *testing.T) {
	isWrong(t, "x1 = 07;", 1)
	isScanned(t, "if a<=b{//c\nprint(9)",
		word(1, "if"), name(1, "a"), sign(1, "<="), name(1, "b"), sign(1, "{"),
		word(2, "print"), sign(2, "("), number(2, 9), sign(2, ")"))
	isWrong(t, "a & b", 1)
	isWrong(t, "1a", 1)
	isScanned(t, "")
	if l, line, e := token.Scan(nil); len(l) != 0 || line != 0 || e != api.OK {
		t.Errorf("Scan of nil: %v, %d, error %d", l, line, e)
	}
}

func TestProgram(t *testing.T) {
	isScanned(t, "type P struct { x int; }\r\nfunc f(n int, b bool) [3] int {\n\t// nothing\n\n\tvar p P; p.x = -n % 10;\n\tif !b || n >= 1 && true { return; } else { a[0] = input(); }\n}\n",
		word(1, "type"), name(1, "P"), word(1, "struct"), sign(1, "{"), name(1, "x"), word(1, "int"), sign(1, ";"), sign(1, "}"),
		word(2, "func"), name(2, "f"), sign(2, "("), name(2, "n"), word(2, "int"), sign(2, ","), name(2, "b"), word(2, "bool"), sign(2, ")"), sign(2, "["), number(2, 3), sign(2, "]"), word(2, "int"), sign(2, "{"),
		word(5, "var"), name(5, "p"), name(5, "P"), sign(5, ";"), name(5, "p"), sign(5, "."), name(5, "x"), sign(5, "="), sign(5, "-"), name(5, "n"), sign(5, "%"), number(5, 10), sign(5, ";"),
		word(6, "if"), sign(6, "!"), name(6, "b"), sign(6, "||"), name(6, "n"), sign(6, ">="), number(6, 1), sign(6, "&&"), word(6, "true"), sign(6, "{"), word(6, "return"), sign(6, ";"), sign(6, "}"),
		word(6, "else"), sign(6, "{"), name(6, "a"), sign(6, "["), number(6, 0), sign(6, "]"), sign(6, "="), word(6, "input"), sign(6, "("), sign(6, ")"), sign(6, ";"), sign(6, "}"),
		sign(7, "}"))
}

// How long a source may be

func TestHowLongASourceMayBe(t *testing.T) {
	const most = api.MaxSource
	for _, n := range []int{most - 1, most} {
		isScanned(t, strings.Repeat(" ", n))
		isScanned(t, strings.Repeat("\n", n-1)+"a", name(n, "a"))
		isScanned(t, strings.Repeat("/", n))
		isScanned(t, "//"+strings.Repeat("\x00", n-2))
		isScanned(t, "//"+strings.Repeat("\xff", n-4)+"\n1", number(2, 1))
		isWrong(t, strings.Repeat("\n", n-1)+"#", n)
		isWrong(t, strings.Repeat("a", n), 1)
		isWrong(t, strings.Repeat("0", n), 1)
		isWrong(t, strings.Repeat("9", n), 1)
		isWrong(t, strings.Repeat("\x00", n), 1)
		all := make([]api.Token, n)
		for i := range all {
			all[i] = sign(1, ";")
		}
		isScanned(t, strings.Repeat(";", n), all...)
		isAsTheWordsSay(t, strings.Repeat("a\n", n/2))
		isAsTheWordsSay(t, strings.Repeat("/ ", n/2))
		isAsTheWordsSay(t, strings.Repeat("//\n!", n/4))
	}
	for _, n := range []int{most + 1, most + 2, 2 * most, 1 << 20} {
		for _, s := range []string{" ", "\n", ";", "/", "a", "0", "\x00", "#"} {
			isTooLong(t, strings.Repeat(s, n))
		}
		isTooLong(t, "#"+strings.Repeat(" ", n-1))
		isTooLong(t, strings.Repeat(" ", n-1)+"#")
	}
}

// Blanks, remarks and lines

func TestBlanks(t *testing.T) {
	for _, s := range []string{" ", "\t", "\r", "\n", "  ", " \t\r\n", "\n\n\n", "//", "///", "////", "// a", "//\n", "// a\n", " // a\n ", "//\r", "//\x00\x80\xff\n", "// #1a07&\n", "//a//b", "//a\n//b\n", "//\n//", "/// /", "//*\n"} {
		isScanned(t, s)
		lines := strings.Count(s, "\n")
		isScanned(t, s+"\na", name(lines+2, "a"))
		isScanned(t, "a"+s, name(1, "a"))
		isScanned(t, "a"+s+"\nb", name(1, "a"), name(lines+2, "b"))
		isWrong(t, s+"\n#", lines+2)
	}
}

func TestEachByteIsABlankOrIsNone(t *testing.T) {
	for c := range 256 {
		s := string([]byte{byte(c)})
		switch {
		case strings.Contains(" \t\r", s):
			isScanned(t, "a"+s+"b", name(1, "a"), name(1, "b"))
		case s == "\n":
			isScanned(t, "a"+s+"b", name(1, "a"), name(2, "b"))
		default:
			if l, _, _ := token.Scan([]byte("a " + s + " b")); len(l) == 2 {
				t.Errorf("byte %d is a blank", c)
			}
		}
		if s != "\n" { // in a remark each of them says nothing
			isScanned(t, "a//"+s+"b\nc", name(1, "a"), name(2, "c"))
			isScanned(t, "//"+s+"\n"+"c", name(2, "c"))
		}
	}
}

func TestBytesThatAreNoToken(t *testing.T) {
	for _, s := range []string{"\x00", "\x01", "\x0b", "\x0c", "\x1a", "\x1f", "\x7f", "\x80", "\x85", "\xa0", "\xff", "#", "$", "@", "^", "~", "`", "'", "\"", "\\", ":", "?", "&", "|", "é", "\u2028", "\ufeff", "１", "ａ", "＜"} {
		isWrong(t, s, 1)
		isWrong(t, "a "+s, 1)
		isWrong(t, "a"+s, 1)
		isWrong(t, "1"+s, 1)
		isWrong(t, "("+s, 1)
		isWrong(t, s+" a", 1)
		isWrong(t, "a;\n\n  "+s+"\n", 3)
		isScanned(t, "a // "+s+"\n;", name(1, "a"), sign(2, ";"))
	}
}

func TestLines(t *testing.T) {
	isScanned(t, "a b\nc\n\nd", name(1, "a"), name(1, "b"), name(2, "c"), name(4, "d"))
	isScanned(t, "\n\na", name(3, "a"))
	isScanned(t, "a\r\nb\rc\n\rd", name(1, "a"), name(2, "b"), name(2, "c"), name(3, "d"))
	isScanned(t, "a//b\rc\nd", name(1, "a"), name(2, "d"))
	isScanned(t, "a//\n//\n\n//b\nc", name(1, "a"), name(5, "c"))
	isScanned(t, "1\n2//\n3\n", number(1, 1), number(2, 2), number(3, 3))
	isWrong(t, "a\n//b\nc # d\ne", 3)
	isWrong(t, "#\n#", 1)
	isWrong(t, "a\n#\n1a", 2)
	isWrong(t, "\r\r\n\r#", 2)
	isWrong(t, "//#\n//#\n#", 3)
}

// Names and words

func TestNames(t *testing.T) {
	for _, s := range []string{"a", "z", "A", "Z", "_", "__", "_1", "a1", "aZ09_z", "x_y", "abcdefghijklmnopqrstuvwx", "ABCDEFGHIJKLMNOPQRSTUVWX", "YZ_yz0123456789", "main", "e5", "O0"} {
		isScanned(t, s, name(1, s))
		isScanned(t, " "+s+"\n", name(1, s))
		isScanned(t, s+"("+s+"."+s, name(1, s), sign(1, "("), name(1, s), sign(1, "."), name(1, s))
		isScanned(t, "-"+s+" "+s, sign(1, "-"), name(1, s), name(1, s))
	}
}

func TestWhichBytesANameHas(t *testing.T) {
	const letters = "abcdefghijklmnopqrstuvwxyzABCDEFGHIJKLMNOPQRSTUVWXYZ_"
	for c := range 256 {
		s := string([]byte{byte(c)})
		begins := strings.Contains(letters, s)
		if l, _, e := token.Scan([]byte(s)); (len(l) == 1 && l[0] == name(1, s) && e == api.OK) != begins {
			t.Errorf("byte %d alone: %v, error %d", c, l, e)
		}
		goesOn := begins || strings.Contains("0123456789", s)
		if l, _, e := token.Scan([]byte("q" + s)); (len(l) == 1 && l[0] == name(1, "q"+s) && e == api.OK) != goesOn {
			t.Errorf("byte %d behind a letter: %v, error %d", c, l, e)
		}
	}
}

func TestHowLongANameMayBe(t *testing.T) {
	for _, s := range []string{"n", "_", "Z"} {
		for _, more := range []string{"n", "_", "0", "9", "Z"} {
			for n := range api.MaxName {
				isScanned(t, s+strings.Repeat(more, n), name(1, s+strings.Repeat(more, n)))
			}
			full := s + strings.Repeat(more, api.MaxName-1)
			isScanned(t, full+"="+full+"//"+more, name(1, full), sign(1, "="), name(1, full))
			isScanned(t, full+" "+full, name(1, full), name(1, full))
			for _, n := range []int{api.MaxName, api.MaxName + 1, 2 * api.MaxName, 255, 256, 280, 1000} {
				isWrong(t, s+strings.Repeat(more, n), 1)
				isWrong(t, "a\n"+s+strings.Repeat(more, n)+"\n;", 2)
			}
		}
	}
	isWrong(t, "return"+strings.Repeat("_", api.MaxName-5), 1)
}

func TestWords(t *testing.T) {
	for _, s := range allWords() {
		isScanned(t, s, word(1, s))
		isScanned(t, s+"("+s+"//\n"+s, word(1, s), sign(1, "("), word(1, s), word(2, s))
		for _, more := range []string{"a", "0", "_", s, "S"} {
			isScanned(t, s+more, name(1, s+more))
		}
		isScanned(t, "a"+s, name(1, "a"+s))
		isScanned(t, "_"+s, name(1, "_"+s))
		isScanned(t, strings.ToUpper(s), name(1, strings.ToUpper(s)))
		isScanned(t, strings.ToUpper(s[:1])+s[1:], name(1, strings.ToUpper(s[:1])+s[1:]))
		isScanned(t, s[:len(s)-1], name(1, s[:len(s)-1]))
		isScanned(t, s[1:], name(1, s[1:]))
		isWrong(t, "1"+s, 1)
	}
	isScanned(t, "else if", word(1, "else"), word(1, "if"))
	for _, s := range []string{"break", "const", "while", "nil", "string", "uint8", "map", "len", "main", "elseif", "import", "package"} {
		isScanned(t, s, name(1, s))
	}
}

// Numbers

func TestNumbers(t *testing.T) {
	for _, n := range []int64{0, 1, 2, 3, 4, 5, 6, 7, 8, 9, 10, 11, 19, 90, 99, 100, 101, 127, 128, 255, 256, 1000, 65536, 1<<31 - 1, 1 << 31, 1<<32 - 1, 1 << 32, 1<<53 + 1, 1 << 62, 999999999999999999, 1000000000000000000, 1234567890123456789, math.MaxInt64 - 1, math.MaxInt64} {
		s := number(1, n).Text
		isScanned(t, s, number(1, n))
		isScanned(t, "\n"+s+"\r", number(2, n))
		isScanned(t, s+" "+s+"//"+s, number(1, n), number(1, n))
		isScanned(t, s+" a", number(1, n), name(1, "a"))
		isScanned(t, "a"+s+"-"+s, name(1, "a"+s), sign(1, "-"), number(1, n))
		for _, behind := range allSigns() {
			isScanned(t, s+behind+s, number(1, n), sign(1, behind), number(1, n))
		}
	}
}

func TestNumbersOfTooMuch(t *testing.T) {
	for _, s := range []string{
		"9223372036854775808", "9223372036854775809", "9223372036854775810", "9223372036854775817", "9300000000000000000", "9999999999999999999",
		"10000000000000000000", "18446744073709551615", "18446744073709551616", "18446744073709551617", "27670116110564327424", "36893488147419103233", "92233720368547758070", "99999999999999999999",
		"100000000000000000000000", "340282366920938463463374607431768211457", "1" + strings.Repeat("0", 63), "1" + strings.Repeat("0", 64), "1" + strings.Repeat("0", 300), strings.Repeat("7", 5000),
	} {
		isWrong(t, s, 1)
		isWrong(t, "-"+s, 1)
		isWrong(t, "a = 1;\nb = "+s+";", 2)
		isScanned(t, "a//"+s, name(1, "a"))
		isWrong(t, "\n"+s+"a", 2)
	}
}

func TestNumbersWith0Ahead(t *testing.T) {
	for _, s := range []string{"00", "01", "07", "08", "09", "000", "001", "010", "0123", "00000000000000000000", "00000000000000000001", "09223372036854775807"} {
		isWrong(t, s, 1)
		isWrong(t, "a[\n"+s+"]", 2)
		isWrong(t, "0 "+s, 1)
		isScanned(t, "a"+s, name(1, "a"+s))
	}
	isScanned(t, "0", number(1, 0))
	isScanned(t, "0 0", number(1, 0), number(1, 0))
	isScanned(t, "0+0", number(1, 0), sign(1, "+"), number(1, 0))
	isScanned(t, "10 0", number(1, 10), number(1, 0))
	isScanned(t, "0.0", number(1, 0), sign(1, "."), number(1, 0))
	isWrong(t, "0.07", 1)
}

func TestLettersBehindNumbers(t *testing.T) {
	for _, n := range []int64{0, 1, 9, 10, math.MaxInt64} {
		s := number(1, n).Text
		for _, c := range "abcxyzABCXYZ_e" {
			isWrong(t, s+string(c), 1)
			isWrong(t, s+string(c)+"1", 1)
			isWrong(t, "a\n"+s+string(c)+" b", 2)
			isScanned(t, s+" "+string(c), number(1, n), name(1, string(c)))
		}
	}
	for _, s := range []string{"0x1f", "0b1", "0o7", "1e5", "1_000", "0_0", "1if", "0true", "12ab34"} {
		isWrong(t, s, 1)
	}
	isScanned(t, "1.5", number(1, 1), sign(1, "."), number(1, 5))
	isScanned(t, "1.x", number(1, 1), sign(1, "."), name(1, "x"))
	isScanned(t, "-1", sign(1, "-"), number(1, 1))
	isScanned(t, "+1", sign(1, "+"), number(1, 1))
	isScanned(t, "x1", name(1, "x1"))
}

// Signs

func TestSigns(t *testing.T) {
	for _, s := range allSigns() {
		isScanned(t, s, sign(1, s))
		isScanned(t, "\n"+s+" ", sign(2, s))
		isScanned(t, "a"+s+"b", name(1, "a"), sign(1, s), name(1, "b"))
		isScanned(t, "1"+s+"2", number(1, 1), sign(1, s), number(1, 2))
		isScanned(t, "if"+s+"if", word(1, "if"), sign(1, s), word(1, "if"))
		isScanned(t, s+" "+s+"\n"+s, sign(1, s), sign(1, s), sign(2, s))
	}
}

func TestOfTwoSignsTheLongerOne(t *testing.T) {
	for src, want := range map[string]string{
		"===": "== =", "====": "== ==", "!==": "!= =", "!!=": "! !=", "<==": "<= =", ">==": ">= =", "<=>": "<= >", "=<": "= <", "=>": "= >", "=!": "= !", "=!=": "= !=", "==!": "== !",
		"<<": "< <", "<<=": "< <=", ">>=": "> >=", "<>": "< >", "<>=": "< >=", "!!": "! !", "!<=": "! <=", "++": "+ +", "--": "- -", "+=": "+ =", "-=": "- =", "*=": "* =", "/=": "/ =", "/==": "/ ==", "%=": "% =", "%==": "% ==",
		"&&&&": "&& &&", "||||": "|| ||", "&&||": "&& ||", "||&&": "|| &&", "&&!": "&& !", "&&==": "&& ==", "!&&": "! &&", "/*": "/ *", "*/": "* /", "/ /": "/ /", "*//": "*", "=//=": "=", "<//": "<",
		"()": "( )", "((": "( (", "[]": "[ ]", "{}": "{ }", ");": ") ;", "..": ". .", ",,": ", ,", ";;": "; ;", ".=": ". =", "[=": "[ =", "(!": "( !", "-!": "- !", "-->": "- - >", "% %": "% %",
	} {
		var l []api.Token
		for _, s := range strings.Fields(want) {
			l = append(l, sign(1, s))
		}
		isScanned(t, src, l...)
	}
}

func TestSignsThatBlanksPart(t *testing.T) {
	for _, s := range []string{"==", "!=", "<=", ">="} {
		isScanned(t, s[:1]+" "+s[1:], sign(1, s[:1]), sign(1, s[1:]))
		isScanned(t, s[:1]+"\n"+s[1:], sign(1, s[:1]), sign(2, s[1:]))
		isScanned(t, s[:1]+"//\n"+s[1:], sign(1, s[:1]), sign(2, s[1:]))
	}
	for _, s := range []string{"&", "|"} {
		for _, src := range []string{s, s + " ", s + " " + s, s + "\n" + s, s + "//" + s, "a" + s, s + "a", s + s + s, s + s + s + "=", s + "=", s + "1", "(" + s + ")", "&|", "|&"} {
			isWrong(t, src, 1)
		}
		isWrong(t, s+s+"\n"+s+"\n", 2)
	}
}

func TestSlashes(t *testing.T) {
	isScanned(t, "/", sign(1, "/"))
	isScanned(t, "a/b", name(1, "a"), sign(1, "/"), name(1, "b"))
	isScanned(t, "a/ /b", name(1, "a"), sign(1, "/"), sign(1, "/"), name(1, "b"))
	isScanned(t, "a//b", name(1, "a"))
	isScanned(t, "a///b\n/", name(1, "a"), sign(2, "/"))
	isScanned(t, "a/\n/b", name(1, "a"), sign(1, "/"), sign(2, "/"), name(2, "b"))
	isScanned(t, "/\n//\n/", sign(1, "/"), sign(3, "/"))
	isScanned(t, "/*a*/", sign(1, "/"), sign(1, "*"), name(1, "a"), sign(1, "*"), sign(1, "/"))
	isScanned(t, "1//2\n3", number(1, 1), number(2, 3))
}

// What is wrong takes all tokens away, wherever it stands.
func TestNoTokensBesideAnError(t *testing.T) {
	many := strings.Repeat("a = 1;\n", 500)
	for _, s := range []string{"#", "1a", "00", "9223372036854775808", strings.Repeat("n", 25), "&"} {
		isWrong(t, s+"\n"+many, 1)
		isWrong(t, many+s, 501)
		isWrong(t, many+s+"\n"+many+s, 501)
	}
}
