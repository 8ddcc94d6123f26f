package scopes_test

import (
	"math"
	"strings"
	"testing"

	"theodolite/api"
	"theodolite/leb"
	"theodolite/scopes"
)

// The things of a table, as right ones.

func whole(name string) api.Var {
	return api.Var{Name: name, Type: api.Type{Kind: api.TyInt}, Words: 1}
}

func yes(name string) api.Var {
	return api.Var{Name: name, Type: api.Type{Kind: api.TyBool}, Words: 1}
}

func array(name string, n int) api.Var {
	return api.Var{Name: name, Type: api.Type{Kind: api.TyArray, N: n}, Words: n}
}

func record(name, kind string, fields ...string) api.Var {
	return api.Var{Name: name, Type: api.Type{Kind: api.TyStruct, Name: kind}, Words: len(fields), Fields: fields}
}

func span(from, to int, n int64) api.Span {
	return api.Span{From: from, To: to, At: []api.Loc{{Kind: api.LocNum, N: n}}}
}

// place has variables that are nowhere.
func place(name string, from, to int, vars ...api.Var) api.Place {
	return api.Place{Name: name, From: from, To: to, Vars: vars, Spans: make([][]api.Span, len(vars))}
}

// held is a place of one variable x, with these spans.
func held(from, to int, spans ...api.Span) api.Place {
	return api.Place{Name: "f", From: from, To: to, Vars: []api.Var{whole("x")}, Spans: [][]api.Span{spans}}
}

func places(l ...api.Place) []api.Place { return l }

func point(f, line int, scope ...int) api.Point { return api.Point{Func: f, Line: line, Scope: scope} }

func points(l ...api.Point) []api.Point { return l }

// chapters is the table of the chapter's example, and its bytes.
func chapters() ([]api.Place, []api.Point, string) {
	spans := []api.Span{{From: 2, To: 5, At: []api.Loc{{Kind: api.LocReg, N: 1}}}}
	return places(held(0, 9, spans...)), points(point(0, 3, 0)), "\x01\x01\x66\x00\x09\x01\x01\x78\x01\x01\x02\x03\x01\x02\x01\x01\x00\x03\x01\x00"
}

// many is so many variables, places, or points.
func manyVars(n int) []api.Var {
	l := make([]api.Var, n)
	for i := range l {
		l[i] = whole("x")
	}
	return l
}

func manyPlaces(n int) []api.Place {
	l := make([]api.Place, n)
	for i := range l {
		l[i] = place("f", 2*i, 2*i+1)
	}
	return l
}

func manyPoints(n int) []api.Point {
	l := make([]api.Point, n)
	for i := range l {
		l[i] = point(0, i+1)
	}
	return l
}

func TestExample(t *testing.T) {
	l, p, b := chapters()
	isTable(t, l, p, b)
	isIn(t, l, 8, 0)
	isIn(t, l, 9, -1)
	isNamed(t, l, p, 0, "x", 0)
}

// P9.1: Right and Put

func TestTablesThatAreRight(t *testing.T) {
	f := place("f", 0, 1)
	for _, c := range []struct {
		l    []api.Place
		p    []api.Point
		want string
	}{
		{nil, nil, "\x00\x00"},
		{[]api.Place{}, []api.Point{}, "\x00\x00"},
		{places(f), nil, "\x01\x01f\x00\x01\x00\x00"},
		{places(place("main", 300, 600)), nil, "\x01\x04main\xac\x02\xac\x02\x00\x00"},
		{places(f, place("g", 1, 3)), nil, "\x02\x01f\x00\x01\x00\x01g\x00\x02\x00\x00"},
		{places(f, place("f", 3, 300)), nil, "\x02\x01f\x00\x01\x00\x01f\x02\xa9\x02\x00\x00"}, // two may have one name
		{places(place("f", 0, 1<<24)), nil, "\x01\x01f\x00\x80\x80\x80\x08\x00\x00"},
		{places(place("f", 1<<24-1, 1<<24)), nil, "\x01\x01f\xff\xff\xff\x07\x01\x00\x00"},
		{places(place("f", 0, 1, whole("x"))), nil, "\x01\x01f\x00\x01\x01\x01x\x01\x00\x00"},
		{places(place("f", 0, 1, yes("x"))), nil, "\x01\x01f\x00\x01\x01\x01x\x02\x00\x00"},
		{places(place("f", 0, 1, array("ab", 16))), nil, "\x01\x01f\x00\x01\x01\x02ab\x03\x10\x00\x00"},
		{places(place("f", 0, 1, record("p", "Two", "x", "yy"))), nil, "\x01\x01f\x00\x01\x01\x01p\x04\x03Two\x02\x01x\x02yy\x00\x00"},
		{places(place("f", 0, 1, record("p", "T", "x", "x"))), nil, "\x01\x01f\x00\x01\x01\x01p\x04\x01T\x02\x01x\x01x\x00\x00"},
		{places(place("f", 0, 1, whole("x"), yes("x"))), nil, "\x01\x01f\x00\x01\x02\x01x\x01\x00\x01x\x02\x00\x00"},
		{places(held(3, 9, span(3, 5, 7), span(5, 9, -1))), nil, "\x01\x01f\x03\x06\x01\x01x\x01\x02\x03\x02\x01\x01\x07\x00\x04\x01\x01\x7f\x00"},
		{places(f), points(point(0, 1), point(0, 1)), "\x01\x01f\x00\x01\x00\x02\x00\x01\x00\x00\x01\x00"}, // two may be one
		{places(f), points(point(0, 300), point(0, 1<<20)), "\x01\x01f\x00\x01\x00\x02\x00\xac\x02\x00\x00\x80\x80\x40\x00"},
		{places(f, place("g", 1, 2, whole("x"), yes("y"))), points(point(1, 4, 0, 1), point(1, 3, 1), point(0, 2)), "\x02\x01f\x00\x01\x00\x01g\x00\x01\x02\x01x\x01\x00\x01y\x02\x00\x03\x01\x04\x02\x00\x01\x01\x03\x01\x01\x00\x02\x00"},
	} {
		isTable(t, c.l, c.p, c.want)
		if own(c.l, c.p) != c.want {
			t.Errorf("the model says %x, not %x", own(c.l, c.p), c.want)
		}
	}
}

// everywhere is tables that are right just if a text is a name: it stands once at each place where a name may be.
func everywhere(s string) [][]api.Place {
	return [][]api.Place{
		places(place(s, 0, 1)),
		places(place("f", 0, 1), place(s, 1, 2)),
		places(place("f", 0, 1, whole(s))),
		places(place("f", 0, 1, whole("x"), yes(s))),
		places(place("f", 0, 1, yes(s), whole("x"))),
		places(place("f", 0, 1, array(s, 3))),
		places(place("f", 0, 1, record(s, "T", "x"))),
		places(place("f", 0, 1, record("p", s, "x"))),
		places(place("f", 0, 1, record("p", "T", s))),
		places(place("f", 0, 1, record("p", "T", "x", s))),
		places(place("f", 0, 1, record("p", "T", s, "x", "y", "z", "x", "y", "z", "x"))),
		places(place("f", 0, 1, record("p", "T", "x", "y", "z", "x", "y", "z", "x", s))),
	}
}

func TestNames(t *testing.T) {
	full := strings.Repeat("x", 24)
	for _, s := range []string{"a", "z", "A", "Z", "0", "9", "_", "__", "_9", "9_", "007", "main", "aZ09_", "struct", "int", full[:23], full, signs[:24], signs[24:48], signs[39:]} {
		for _, l := range everywhere(s) {
			isTable(t, l, nil, own(l, nil))
		}
	}
	for _, s := range []string{"", " ", "a b", "a ", " a", "a\x00", "\x00", "-", "a-b", "a.b", "é", "aé", "\xff", "\xc1", "\u212a", full + "x", full + full, strings.Repeat("x", 255), strings.Repeat("x", 256), strings.Repeat("x", 257), strings.Repeat("x", 1<<16)} {
		for _, l := range everywhere(s) {
			isWrong(t, l, nil)
			if len(s) < 256 {
				isNotGot(t, own(l, nil), 0, api.ErrForm)
			}
		}
	}
}

func TestEachByteOfANameCounts(t *testing.T) {
	for c := range 256 {
		for _, s := range []string{string([]byte{byte(c)}), string([]byte{byte(c), 'b'}), string([]byte{'a', byte(c)}), "abc" + string([]byte{byte(c)}) + "def"} {
			for _, l := range everywhere(s) {
				isRightAsTheWordsSay(t, l, nil)
				if !strings.Contains(signs, string([]byte{byte(c)})) {
					isWrong(t, l, nil)
					isNotGot(t, own(l, nil), 0, api.ErrForm)
				}
			}
		}
	}
}

func TestVariables(t *testing.T) {
	eight := []string{"a", "b", "c", "d", "e", "f", "g", "h"}
	for _, v := range []api.Var{whole("x"), yes("x"), array("x", 1), array("x", 2), array("x", 15), array("x", 16), record("x", "T", eight[:1]...), record("x", "T", eight[:2]...), record("x", "T", eight[:7]...), record("x", "T", eight...)} {
		l := places(place("f", 0, 1, v))
		isTable(t, l, nil, own(l, nil))
		for _, spoil := range []func(v *api.Var){
			func(v *api.Var) { v.Words++ },
			func(v *api.Var) { v.Words-- },
			func(v *api.Var) { v.Words = -v.Words },
			func(v *api.Var) { v.Words += 1 << 32 },
			func(v *api.Var) { v.Words = math.MaxInt },
			func(v *api.Var) { v.Words = math.MinInt },
			func(v *api.Var) { v.Type.N += 17 },
			func(v *api.Var) { v.Type.N = -1 },
			func(v *api.Var) { v.Type.N -= 1 << 32 },
			func(v *api.Var) { v.Type.N += 1 << 32 },
			func(v *api.Var) { v.Type.N = math.MinInt },
			func(v *api.Var) { v.Type.Kind = 0 },
			func(v *api.Var) { v.Type.Kind = 5 },
			func(v *api.Var) { v.Type.Kind = 255 },
			func(v *api.Var) { v.Type.Kind += 4 },
			func(v *api.Var) { v.Type.Kind += 128 },
			func(v *api.Var) { v.Fields = append([]string{"x"}, eight...) },
			func(v *api.Var) { v.Fields = append([]string{"x"}, eight...); v.Words = 9 },
			func(v *api.Var) { v.Type.N, v.Words = 17, 17 },
			func(v *api.Var) { v.Type.N, v.Words = -1, -1 },
		} {
			c := v
			spoil(&c)
			isWrong(t, places(place("f", 0, 1, c)), nil)
			isWrong(t, places(place("f", 0, 1, c, whole("y"))), nil)
			isWrong(t, places(place("f", 0, 1, whole("y"), c)), nil)
			isWrong(t, places(place("f", 0, 1), place("g", 1, 2, whole("y"), c)), nil)
		}
	}
}

func TestWhatVariablesDoNotHave(t *testing.T) {
	for _, v := range []api.Var{
		{Name: "x", Type: api.Type{Kind: api.TyInt, N: 1}, Words: 1},
		{Name: "x", Type: api.Type{Kind: api.TyBool, N: 1}, Words: 1},
		{Name: "x", Type: api.Type{Kind: api.TyInt, Name: "T"}, Words: 1},
		{Name: "x", Type: api.Type{Kind: api.TyBool, Name: "T"}, Words: 1},
		{Name: "x", Type: api.Type{Kind: api.TyArray, N: 3, Name: "T"}, Words: 3},
		{Name: "x", Type: api.Type{Kind: api.TyInt}, Words: 1, Fields: []string{"a"}},
		{Name: "x", Type: api.Type{Kind: api.TyBool}, Words: 1, Fields: []string{"a"}},
		{Name: "x", Type: api.Type{Kind: api.TyArray, N: 1}, Words: 1, Fields: []string{"a"}},
		{Name: "x", Type: api.Type{Kind: api.TyInt}},
		{Name: "x", Type: api.Type{Kind: api.TyBool}},
		{Name: "x", Type: api.Type{Kind: api.TyInt}, Words: 2},
		{Name: "x", Type: api.Type{Kind: api.TyArray}},
		{Name: "x", Type: api.Type{Kind: api.TyArray}, Words: 1},
		{Name: "x", Type: api.Type{Kind: api.TyArray, N: 3}, Words: 1},
		{Name: "x", Type: api.Type{Kind: api.TyStruct, Name: "T"}},
		{Name: "x", Type: api.Type{Kind: api.TyStruct, Name: "T"}, Words: 1},
		{Name: "x", Type: api.Type{Kind: api.TyStruct, Name: "T", N: 1}, Words: 1, Fields: []string{"a"}},
		{Name: "x", Type: api.Type{Kind: api.TyStruct}, Words: 1, Fields: []string{"a"}},
		{Name: "x", Type: api.Type{Kind: api.TyStruct, Name: "T"}, Words: 1, Fields: []string{"a", "b"}},
		{Name: "x", Type: api.Type{Kind: api.TyStruct, Name: "T"}, Words: 2, Fields: []string{"a"}},
		{Name: "x", Words: 1},
		{},
	} {
		isWrong(t, places(place("f", 0, 1, v)), nil)
		isWrong(t, places(place("f", 0, 1, whole("a"), v, whole("b"))), nil)
	}
}

func TestAllSmallVariables(t *testing.T) {
	for kind := range uint8(7) {
		for n := -1; n <= 18; n++ {
			for words := -1; words <= 18; words++ {
				for fields := range 11 {
					for _, name := range []string{"", "T"} {
						v := api.Var{Name: "x", Type: api.Type{Kind: kind, N: n, Name: name}, Words: words}
						for range fields {
							v.Fields = append(v.Fields, "a")
						}
						if l := places(place("f", 0, 1, v)); scopes.Right(l, nil) != isVar(v) {
							t.Errorf("Right of a place with %v: %v", v, !isVar(v))
						}
					}
				}
			}
		}
	}
}

func TestHowManyThereMayBe(t *testing.T) {
	f := places(place("f", 0, 1))
	for _, n := range []int{1, 2, 63, 64} {
		isTable(t, manyPlaces(n), nil, own(manyPlaces(n), nil))
		l := places(place("f", 0, 1, manyVars(n)...), place("g", 1, 2, manyVars(n)...))
		isTable(t, l, points(point(1, 1, n-1)), own(l, points(point(1, 1, n-1))))
	}
	for _, n := range []int{65, 66, 127, 128, 256, 256 + 64, 1 << 16} {
		isWrong(t, manyPlaces(n), nil)
		isWrong(t, places(place("f", 0, 1, manyVars(n)...)), nil)
		isWrong(t, places(place("f", 0, 1), place("g", 1, 2, manyVars(n)...)), nil)
		isNotGot(t, own(manyPlaces(n), nil), 0, api.ErrForm)
		isNotGot(t, own(places(place("f", 0, 1, manyVars(n)...)), nil), 0, api.ErrForm)
	}
	for _, n := range []int{1, 2, 127, 128, 999, 1000} {
		isTable(t, f, manyPoints(n), own(f, manyPoints(n)))
	}
	for _, n := range []int{1001, 1002, 1024, 2000, 1 << 17} {
		isWrong(t, f, manyPoints(n))
		isNotGot(t, own(f, manyPoints(n)), 0, api.ErrForm)
	}
	isWrong(t, make([]api.Place, 1<<16), nil)
	isWrong(t, nil, make([]api.Point, 1<<16))
}

func TestTheGreatestOfAll(t *testing.T) {
	name := signs[:24]
	l := manyPlaces(64)
	for i := range l {
		l[i].Name = name
		for range 64 {
			l[i].Vars = append(l[i].Vars, record(name, name, name, name, name, name, name, name, name, name))
			l[i].Spans = append(l[i].Spans, []api.Span{span(2*i, 2*i+1, math.MinInt64)})
		}
	}
	p := make([]api.Point, 1000)
	for i := range p {
		p[i] = point(i%64, 1<<20-i)
		for k := range 64 {
			p[i].Scope = append(p[i].Scope, k)
		}
	}
	b := own(l, p)
	isTable(t, l, p, b)
	for _, size := range []int{len(b) / 3, len(b) / 2, len(b) - 2, len(b) - 1} {
		isNotGot(t, b[:size], 0, api.ErrForm)
	}
	p[999].Scope = append(p[999].Scope, 64)
	isWrong(t, l, p)
	isNotGot(t, own(l, p), 0, api.ErrForm)
}

func TestWhereAPlaceMayBe(t *testing.T) {
	ends := []int{math.MinInt, math.MinInt + 1, -1 << 32, -9, -1, 0, 1, 2, 3, 9, 10, 1<<24 - 1, 1 << 24, 1<<24 + 1, 1 << 32, 1<<32 + 3, math.MaxInt - 1, math.MaxInt}
	for _, from := range ends {
		for _, to := range ends {
			isRightAsTheWordsSay(t, places(place("f", from, to)), nil)
			isRightAsTheWordsSay(t, places(place("e", 0, 1), place("f", from, to)), nil)
			isRightAsTheWordsSay(t, places(place("f", from, to), place("g", 3, 9)), nil)
			isRightAsTheWordsSay(t, places(place("f", from, to), place("g", 1<<24-1, 1<<24)), nil)
			isRightAsTheWordsSay(t, places(place("e", 1, 2), place("f", from, to), place("g", 9, 1<<24)), nil)
		}
	}
	isWrong(t, places(place("f", -1, 3)), nil)
	isWrong(t, places(place("f", 3, 3)), nil)
	isWrong(t, places(place("f", 4, 3)), nil)
	isWrong(t, places(place("f", 0, 1<<24+1)), nil)
	isWrong(t, places(place("f", 3, 9), place("g", 8, 10)), nil)
	isWrong(t, places(place("f", 3, 9), place("g", 0, 3)), nil)
	isWrong(t, places(place("e", 0, 5), place("f", 6, 9), place("g", 5, 6)), nil) // it is the one just ahead that counts
}

func TestWhereASpanMayBe(t *testing.T) {
	for from := range 12 {
		for to := range 12 {
			for _, x := range []api.Place{held(3, 9, span(from, to, 1)), held(3, 9, span(3, 4, 2), span(from, to, 1)), held(3, 9, span(from, to, 1), span(8, 9, 2)), held(0, 9, span(from, to, 1)), held(3, 10, span(from, to, 1))} {
				isRightAsTheWordsSay(t, places(x), nil)
				isRightAsTheWordsSay(t, places(place("e", 0, x.From+1), x), nil)
				if x.From == 3 {
					isRightAsTheWordsSay(t, places(place("e", 0, 3), x, place("g", 10, 20)), nil)
				}
			}
		}
	}
	isTable(t, places(held(3, 9, span(3, 9, 1))), nil, "\x01\x01f\x03\x06\x01\x01x\x01\x01\x03\x06\x01\x01\x01\x00")
	isWrong(t, places(held(3, 9, span(2, 9, 1))), nil)
	isWrong(t, places(held(3, 9, span(3, 10, 1))), nil)
	isWrong(t, places(held(3, 9, span(0, 3, 1))), nil)
	isWrong(t, places(held(3, 9, span(9, 10, 1))), nil)
	isWrong(t, places(held(3, 9, span(4, 5, 1), span(9, 10, 1))), nil)
	isWrong(t, places(place("e", 0, 3), held(3, 9, span(0, 3, 1))), nil) // within its own place, not within another one
}

func TestSpansThatAreNotRight(t *testing.T) {
	for _, spans := range [][]api.Span{
		{span(4, 4, 1)}, {span(5, 4, 1)}, {span(4, 6, 1), span(5, 7, 1)}, {span(6, 7, 1), span(4, 5, 1)},
		{{From: 4, To: 5}}, {span(4, 5, 1), {From: 5, To: 6}}, {{From: 4, To: 5, At: []api.Loc{{Kind: 7}}}}, {{From: 4, To: 5, At: []api.Loc{{Kind: api.LocReg, N: 16}}}},
		{{From: 4, To: 5, At: []api.Loc{{Kind: api.LocAdd}}}}, {span(math.MinInt, math.MaxInt, 1)}, {{}},
	} {
		x := held(3, 9, spans...)
		isWrong(t, places(x), nil)
		isWrong(t, places(place("e", 0, 3), x), nil)
		x.Vars, x.Spans = append(x.Vars, yes("y")), append(x.Spans, nil)
		isWrong(t, places(x), nil)
		x.Spans[0], x.Spans[1] = x.Spans[1], x.Spans[0]
		isWrong(t, places(x), nil)
	}
	most := held(0, 1<<24)
	for i := range 4000 {
		most.Spans[0] = append(most.Spans[0], span(2*i, 2*i+1, 1))
	}
	isTable(t, places(most), nil, own(places(most), nil))
	most.Spans[0] = append(most.Spans[0], span(8000, 8001, 1))
	isWrong(t, places(most), nil)
}

func TestAsManyListsOfSpansAsVariables(t *testing.T) {
	for vars := range 5 {
		for spans := range 5 {
			p := place("f", 0, 9, manyVars(vars)...)
			p.Spans = make([][]api.Span, spans)
			for _, l := range [][]api.Place{places(p), places(p, place("g", 9, 10)), places(place("g", 0, 0), p)[1:]} {
				if vars == spans {
					isTable(t, l, nil, own(l, nil))
				} else {
					isWrong(t, l, nil)
				}
			}
		}
	}
	p := place("f", 0, 9, manyVars(64)...)
	p.Spans = make([][]api.Span, 65)
	isWrong(t, places(p), nil)
	p.Spans = nil
	isWrong(t, places(p), nil)
}

func TestPoints(t *testing.T) {
	two := places(place("f", 0, 1), place("g", 1, 2, whole("x"), whole("y"), whole("z")))
	for _, f := range []int{0, 1, 2, -1, -2, 63, 64, 1 << 32, 1<<32 + 1, -1 << 32, math.MinInt, math.MaxInt} {
		for _, line := range []int{1, 2, 127, 128, 1<<20 - 1, 1 << 20, 0, -1, 1<<20 + 1, 1 << 21, 1<<32 + 1, math.MinInt, math.MinInt + 1, math.MaxInt} {
			for _, x := range [][]api.Point{points(point(f, line)), points(point(1, 3), point(f, line)), points(point(f, line), point(0, 3))} {
				isRightAsTheWordsSay(t, two, x)
				isWrong(t, nil, x)
			}
		}
	}
	isWrong(t, two, points(point(2, 1)))
	isWrong(t, two, points(point(-1, 1)))
	isWrong(t, two, points(point(0, 0)))
	isWrong(t, two, points(point(0, 1<<20+1)))
	isWrong(t, nil, points(point(0, 1)))
}

func TestScopesOfPoints(t *testing.T) {
	l := places(place("f", 0, 1), place("g", 1, 2, whole("x"), whole("x"), whole("z")), place("h", 2, 3, manyVars(64)...))
	numbers := []int{-1, 0, 1, 2, 3}
	for _, a := range numbers {
		for f := range 3 {
			isRightAsTheWordsSay(t, l, points(point(f, 1, a)))
			for _, b := range numbers {
				isRightAsTheWordsSay(t, l, points(point(f, 1, a, b)))
				for _, c := range numbers {
					isRightAsTheWordsSay(t, l, points(point(f, 1, a, b, c)))
					isRightAsTheWordsSay(t, l, points(point(f, 1, 0), point(f, 1, a, b, c)))
				}
			}
		}
	}
	isTable(t, l, points(point(1, 1, 0, 1, 2)), own(l, points(point(1, 1, 0, 1, 2))))
	for _, x := range []api.Point{
		point(0, 1, 0), point(1, 1, 3), point(1, 1, -1), point(1, 1, 1, 1), point(1, 1, 1, 0), point(1, 1, 0, 2, 1), point(2, 1, 64), point(1, 1, math.MaxInt), point(1, 1, math.MinInt),
		point(2, 1, make([]int, 1<<16)...), point(1, 1, 1<<32), point(1, 1, 0, 1<<32+1),
	} {
		isWrong(t, l, points(x))
		isWrong(t, l, points(point(1, 1, 0, 1, 2), x))
		isWrong(t, l, points(x, point(1, 1)))
	}
}

// P9.1: Get

func TestPlacesThatThereAreNot(t *testing.T) {
	_, _, example := chapters()
	for _, b := range []string{"", "\x00", "\x00\x00", example} {
		for _, at := range []int{-1, -2, math.MinInt, -1 << 32, len(b) + 1, len(b) + 2, len(b) + 1<<32, math.MaxInt} {
			isNotGot(t, b, at, api.ErrArg)
		}
		isNotGot(t, b, len(b), api.ErrForm)
	}
	if l, p, next, e := scopes.Get(nil, 0); len(l) != 0 || len(p) != 0 || next != 0 || e != api.ErrForm {
		t.Errorf("Get of nothing: %v, %v, %d, error %d", l, p, next, e)
	}
	isGot(t, "\x00\x00", 0, nil, nil, 2)
	isGot(t, "\xff\x00\x00", 1, nil, nil, 3)
}

func TestBytesAheadAndBehind(t *testing.T) {
	l, p, b := chapters()
	for _, ahead := range []string{"", "\x00", "\x01", "\xff", "\x80", "\x01\x01f\x00", b, b[:10]} {
		for _, behind := range []string{"", "\x00", "\x01", "\x01\x00", "\x7f", "\x80", "\xff", b} {
			isGot(t, ahead+"\x00\x00"+behind, len(ahead), nil, nil, len(ahead)+2)
			isGot(t, ahead+b+behind, len(ahead), l, p, len(ahead+b))
			isGot(t, ahead+"\x01\x01f\x00\x01\x00\x00"+behind, len(ahead), places(place("f", 0, 1)), nil, len(ahead)+7)
		}
	}
}

// wide has each kind of thing, with numbers of one byte and of more.
func wide() ([]api.Place, []api.Point) {
	f := place("main", 300, 900, whole("x"), yes("yy"), array("a", 16), record("p", "Pair", "first", "second"), array("b", 1))
	f.Spans[0] = []api.Span{span(300, 500, 9), span(500, 501, -300), span(700, 900, math.MinInt64)}
	f.Spans[3] = []api.Span{{From: 400, To: 401, At: []api.Loc{{Kind: api.LocBase, N: -3}, {Kind: api.LocWord}}}}
	g := place("g", 1100, 1<<24, record("q", "One", "only"))
	return places(place("e", 0, 300), f, g), points(point(1, 300, 0, 2, 4), point(2, 1<<20, 0), point(0, 1), point(1, 7, 0, 1, 2, 3, 4))
}

// Each beginning of a table's bytes is none, wherever it is cut.
func TestBytesThatAreCutOff(t *testing.T) {
	l, p := wide()
	b := own(l, p)
	isTable(t, l, p, b)
	for size := range len(b) {
		for _, ahead := range []string{"", "\x00", "\x80\x80"} {
			isNotGot(t, ahead+b[:size], len(ahead), api.ErrForm)
			all := []byte(ahead + b) // the room behind the end holds the rest: it does not count
			if l, p, next, e := scopes.Get(all[:len(ahead)+size], len(ahead)); len(l) != 0 || len(p) != 0 || next != 0 || e != api.ErrForm {
				t.Errorf("Get of %d bytes: %v, %v, %d, error %d", size, l, p, next, e)
			}
		}
	}
}

// put is a number's bytes.
func put(x uint64) string { return string(leb.PutU(nil, x)) }

// Each number of a table, made too great, or written in more bytes than it needs.
func TestNumbersThatMayNotBe(t *testing.T) {
	// Each is said with a hole for one number, and is right with some number in the hole.
	for _, c := range []struct {
		ahead, behind string
		right         uint64
	}{
		{"", "\x00", 0}, // how many places
		{"", "\x01f\x00\x01\x00\x00", 1},
		{"\x01\x01f", "\x01\x00\x00", 5},                  // From
		{"\x01\x01f\x00", "\x00\x00", 5},                  // To
		{"\x02\x01f\x00\x01\x00\x01g", "\x01\x00\x00", 5}, // From of a second one
		{"\x02\x01f\x00\x01\x00\x01g\x00", "\x00\x00", 5}, // To of a second one
		{"\x01\x01f\x00\x01", "\x00", 0},                  // how many variables
		{"\x01\x01f\x00\x01", "\x01x\x01\x00\x00", 1},
		{"\x01\x01f\x00\x01\x01\x01x\x03", "\x00\x00", 16},                // N
		{"\x01\x01f\x00\x01\x01\x01x\x04\x01T", "\x01y\x00\x00", 1},       // how many fields
		{"\x01\x01f\x00\x01\x01\x01x\x01", "\x00", 0},                     // how many spans
		{"\x01\x01f\x00\x01\x00", "", 0},                                  // how many points
		{"\x01\x01f\x00\x01\x00\x01", "\x01\x00", 0},                      // Func
		{"\x01\x01f\x00\x01\x00\x01\x00", "\x00", 1},                      // Line
		{"\x01\x01f\x00\x01\x00\x01\x00\x01", "", 0},                      // how many in the scope
		{"\x01\x01f\x00\x01\x01\x01x\x01\x00\x01\x00\x01\x01", "", 0},     // a number of the scope
		{"\x01\x01f\x00\x01\x01\x01x\x01\x00\x01\x00\x01", "\x00", 1},     // how many in it
		{"\x01\x01f\x00\x09\x01\x01x\x01\x01", "\x01\x01\x01\x05\x00", 8}, // a span's From
		{"\x01\x01f\x00\x09\x01\x01x\x01\x01\x00", "\x01\x01\x05\x00", 9}, // a span's To
	} {
		b := c.ahead + put(c.right) + c.behind
		_, _, size, is := told([]byte(b))
		if !is || size != len(b) {
			t.Fatalf("%x is not right", b)
		}
		isGotAsTheWordsSay(t, []byte(b))
		for _, n := range []uint64{c.right + 128, c.right + 1<<14, 1<<24 + 1, 1 << 31, 1<<32 + c.right, 1 << 63, 1<<63 + c.right, 1<<64 - 1, 1<<64 - 5} {
			x := c.ahead + put(n) + c.behind
			isGotAsTheWordsSay(t, []byte(x))
			if n > mostPlace {
				isNotGot(t, x, 0, api.ErrForm)
			}
		}
		for _, more := range []string{"\x80\x00", "\x80\x80\x00"} {
			x := c.ahead + string([]byte{byte(c.right) + more[0]}) + more[1:] + c.behind
			isNotGot(t, x, 0, api.ErrForm)
		}
		for _, x := range []string{c.ahead + strings.Repeat("\xff", 9) + "\x02" + c.behind, c.ahead + strings.Repeat("\xff", 11) + c.behind} {
			isNotGot(t, x, 0, api.ErrForm)
		}
	}
}

func TestManyThingsThatDoNotStandThere(t *testing.T) {
	for _, n := range []uint64{65, 1001, 4001, 1 << 24, 1 << 31, 1 << 32, 1 << 63, 1<<64 - 1} {
		for _, ahead := range []string{"", "\x01\x01f\x00\x01", "\x01\x01f\x00\x01\x01\x01x\x04\x01T", "\x01\x01f\x00\x01\x01\x01x\x01", "\x01\x01f\x00\x01\x00", "\x01\x01f\x00\x01\x00\x01\x00\x01"} {
			isNotGot(t, ahead+put(n), 0, api.ErrForm)
			isNotGot(t, ahead+put(n)+strings.Repeat("\x01", 40), 0, api.ErrForm)
			isNotGot(t, ahead+put(n)+strings.Repeat("\x00", 40), 0, api.ErrForm)
		}
	}
	// Fewer than were told, with the room behind the end full of them.
	isNotGot(t, "\x02\x01f\x00\x01\x00", 0, api.ErrForm)
	isNotGot(t, "\x40"+strings.Repeat("\x01f\x00\x01\x00", 63), 0, api.ErrForm)
	isNotGot(t, "\x40"+strings.Repeat("\x01f\x00\x01\x00", 63)+"\x00", 0, api.ErrForm)
	isGot(t, "\x02"+strings.Repeat("\x01f\x00\x01\x00", 2)+"\x00", 0, places(place("f", 0, 1), place("f", 1, 2)), nil, 12)
}

func TestKindsThatThereAreNot(t *testing.T) {
	for kind := range 256 {
		for _, behind := range []string{"\x00\x00", "\x01\x00\x00", "\x01T\x01\x01a\x00\x00"} {
			b := "\x01\x01f\x00\x01\x01\x01x" + string([]byte{byte(kind)}) + behind
			isGotAsTheWordsSay(t, []byte(b))
			if kind < 1 || kind > 4 {
				isNotGot(t, b, 0, api.ErrForm)
			}
		}
	}
}

// P9.2

func TestIn(t *testing.T) {
	l := places(place("f", 3, 5), place("g", 5, 9), place("h", 12, 13))
	for pc, want := range []int{-1, -1, -1, 0, 0, 1, 1, 1, 1, -1, -1, -1, 2, -1} {
		isIn(t, l, pc, want)
	}
	for _, pc := range []int{-1, -3, math.MinInt, 1 << 24, 1<<32 + 3, math.MaxInt} {
		isIn(t, l, pc, -1)
		isIn(t, nil, pc, -1)
	}
	isIn(t, nil, 0, -1)
	isIn(t, places(place("f", 0, 1<<24)), 1<<24-1, 0)
	isIn(t, places(place("f", 0, 1<<24)), 1<<24, -1)
}

func TestInOfAnyPlaces(t *testing.T) {
	isIn(t, places(place("", 3, 9), place("", 5, 7)), 6, 0) // the first one
	isIn(t, places(place("", 5, 7), place("", 3, 9)), 6, 0)
	isIn(t, places(place("", 5, 7), place("", 3, 9)), 8, 1)
	isIn(t, places(place("", 9, 3), place("", 5, 5)), 5, -1)
	isIn(t, places(place("f", math.MinInt, math.MaxInt)), math.MaxInt, -1)
	isIn(t, places(place("f", math.MinInt, math.MaxInt)), math.MinInt, 0)
	isIn(t, places(place("f", math.MinInt, math.MaxInt)), math.MaxInt-1, 0)
	isIn(t, manyPlaces(100), 198, 99) // more than a right table may have
	ends := []int{math.MinInt, -1, 0, 3, 4, 9, math.MaxInt}
	next := dice(5)
	for range 3000 {
		l := make([]api.Place, next(5))
		for i := range l {
			l[i] = place("", ends[next(len(ends))], ends[next(len(ends))])
		}
		for _, pc := range ends {
			isIn(t, l, pc, in(l, pc))
		}
	}
}

// P9.3

func TestNamed(t *testing.T) {
	l := places(place("f", 0, 1, whole("x"), whole("y"), yes("x"), array("z", 3)), place("g", 1, 2, whole("y")))
	p := points(point(0, 1), point(0, 1, 0), point(0, 1, 0, 1, 2), point(0, 1, 1, 3), point(1, 2, 0), point(0, 2, 0, 1, 2, 3))
	for i, want := range []map[string]int{{}, {"x": 0}, {"x": 2, "y": 1}, {"y": 1, "z": 3}, {"y": 0}, {"x": 2, "y": 1, "z": 3}} {
		for _, name := range []string{"x", "y", "z", "", "X", "xx", "f", "g", "x\x00", " x"} {
			k, is := want[name]
			if !is {
				k = -1
			}
			isNamed(t, l, p, i, name, k)
		}
	}
	for _, i := range []int{-1, -2, 6, 7, 1 << 32, -1 << 32, math.MinInt, math.MaxInt} {
		isNamed(t, l, p, i, "x", -1)
		isNamed(t, nil, nil, i, "x", -1)
	}
	isNamed(t, nil, nil, 0, "x", -1)
	isNamed(t, nil, p, 1, "x", -1)
	isNamed(t, l, nil, 0, "x", -1)
	isNamed(t, l[:1], p, 4, "y", -1)
}

func TestNamedOfAnyTable(t *testing.T) {
	l := places(api.Place{Vars: []api.Var{{}, {Name: "x"}, {Name: "a b"}, {Name: "x"}}}, api.Place{Vars: []api.Var{{Name: "q"}}})
	for _, f := range []int{-1, 2, 1 << 32, math.MinInt, math.MaxInt} {
		isNamed(t, l, points(point(f, 0, 0, 1)), 0, "x", -1)
	}
	isNamed(t, l, points(point(0, 0, 0)), 0, "", 0)
	isNamed(t, l, points(point(0, -1, 2)), 0, "a b", 2)
	isNamed(t, l, points(point(0, 0, 3, 1)), 0, "x", 1) // the last one in the scope, not the one with the greatest number
	isNamed(t, l, points(point(0, 0, 1, 3)), 0, "x", 3)
	isNamed(t, l, points(point(0, 0, 1, 1, 3, 3)), 0, "x", 3)
	isNamed(t, l, points(point(0, 0, 3, 4, -1, 99)), 0, "x", 3) // of those that there are
	isNamed(t, l, points(point(0, 0, 4, -1, math.MinInt, math.MaxInt, 1<<32+1)), 0, "x", -1)
	isNamed(t, l, points(point(1, 0, 1)), 0, "x", -1)
	isNamed(t, l, points(point(1, 0, 1), point(0, 0, 1)), 1, "x", 1)
	names := []string{"", "x", "y", "zz"}
	numbers := []int{math.MinInt, -1, 0, 1, 2, 3, 4, math.MaxInt}
	next := dice(6)
	for range 3000 {
		l, p := make([]api.Place, next(4)), make([]api.Point, next(4))
		for i := range l {
			for range next(5) {
				l[i].Vars = append(l[i].Vars, api.Var{Name: names[next(len(names))]})
			}
		}
		for i := range p {
			p[i].Func = numbers[next(len(numbers))]
			for range next(6) {
				p[i].Scope = append(p[i].Scope, numbers[next(len(numbers))])
			}
		}
		for i := -1; i <= len(p); i++ {
			for _, name := range names {
				isNamed(t, l, p, i, name, named(l, p, i, name))
			}
		}
	}
}
