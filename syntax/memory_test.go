package syntax_test

import (
	"reflect"
	"slices"
	"testing"

	"theodolite/api"
	"theodolite/syntax"
)

// R3: what is handed in is not changed, and not looked at again; what is answered is in memory of its own.

// sample has each sort of list in it, and more than one of most.
func sample() []api.Token {
	return tokens("type T struct { a int ; b int ; } type U struct { c int ; } func f ( x int , y bool , z T ) int { var a [ 4 ] int ; var v int = ( 1 + x ) * - a [ x - 1 ] ; if y || ! y && x < 3 { a [ x ] = 1 ; if y { } else { x = 3 ; } } else { z . a = x + x + x ; for y { g ( 1 , - x , a [ 2 ] , x + 1 ) ; x = g ( ) ; } } return v ; } func g ( ) { x = input ( ) ; print ( ( x ) - ( x + 2 ) ) ; return ; }")
}

func TestWhatIsHandedInIsNotChanged(t *testing.T) {
	all := append(sample(), strange()...)
	kept := slices.Clone(all)
	for size := range len(all) + 1 {
		syntax.Parse(all[:size])
		if !slices.Equal(all, kept) {
			t.Fatalf("%d tokens: what was handed in was changed", size)
		}
	}
}

// What is behind a list's end says nothing, even if it would make more of what stands ahead of it.
func TestWhatIsBehindTheEnd(t *testing.T) {
	all := sample()
	for n := range all {
		want, whole := longest(all[:n])
		if !whole {
			stopsAt(t, all[:n], want)
		} else if x, at, e := syntax.Parse(all[:n]); at != 0 || e != api.OK || len(x.Funcs) > 1 {
			t.Errorf("%d tokens: %s, %d, error %d", n, tell(x), at, e)
		}
	}
}

func TestWhatTheCallerChangesLater(t *testing.T) {
	l := sample()
	x, _, _ := syntax.Parse(l)
	for i := range l {
		l[i] = api.Token{Kind: 99, Text: "spoilt", Num: 99, Line: 99}
	}
	if want, _, _ := syntax.Parse(sample()); !sameProg(x, want) {
		t.Errorf("an answer was changed: %s", tell(x))
	}
}

// room is the memory of a list, with the room behind its end.
type room struct{ from, to uintptr }

// rooms are those of all lists in a thing.
func rooms(v reflect.Value) (l []room) {
	switch v.Kind() {
	case reflect.Struct:
		for i := range v.NumField() {
			l = append(l, rooms(v.Field(i))...)
		}
	case reflect.Slice:
		if v.Cap() > 0 {
			from := v.Pointer()
			l = append(l, room{from, from + uintptr(v.Cap())*v.Type().Elem().Size()})
		}
		for i := range v.Len() {
			l = append(l, rooms(v.Index(i))...)
		}
	}
	return l
}

// Each list of an answer is its own: it shares no memory with another one, nor with one of another answer, nor with the tokens.
func TestEachListIsItsOwn(t *testing.T) {
	next := thrower(dice(9))
	all := [][]api.Token{sample()}
	for range 200 {
		l, _ := next.laid(next.program(3, 4))
		all = append(all, l)
	}
	for i, l := range all {
		first, _, e := syntax.Parse(l)
		second, _, _ := syntax.Parse(l)
		both := slices.Concat(rooms(reflect.ValueOf(l)), rooms(reflect.ValueOf(first)), rooms(reflect.ValueOf(second)))
		if e != api.OK || i == 0 && len(both) < 70 {
			t.Fatalf("%d lists, error %d", len(both), e)
		}
		slices.SortFunc(both, func(a, b room) int { return int(a.from) - int(b.from) })
		for k := 1; k < len(both); k++ {
			if both[k-1].to > both[k].from {
				t.Fatalf("Parse(%s): two lists share memory", short(l))
			}
		}
	}
}

// R5: an answer hangs on the tokens alone, whatever was parsed ahead of them.
func TestOneAnswerEachTime(t *testing.T) {
	want, _, _ := syntax.Parse(sample())
	for _, text := range []string{"", "func", "func f ( ) { ( }", "func f ( ) { x = ( ( 1 ; }", "func f ( ) { if x { for y {", "type T struct { a int ; }", "func f ( ) { return " + shapes(50)["indices"] + " ; }"} {
		syntax.Parse(tokens(text))
		isProgram(t, sample(), want)
		stopsAt(t, tokens("func f ( ) { x = 1"), 8)
		isTooDeep(t, tokens("func f ( ) { "+towers(41)["for"]+" }"))
	}
}
