package check_test

import (
	"cmp"
	"reflect"
	"slices"
	"testing"

	"theodolite/api"
	"theodolite/check"
)

// R3: what is handed in is not changed and not kept, and what is answered is in memory of its own.

// sources are of programs with lists of each sort, and more than one of most.
func sources() []string {
	return []string{
		all, whole, example, "func main() { }", "func f() int { } func main() { nope = 1; }", "type T struct { } func main() { }", "func main() { nope(1, 2, 3); }",
		"func f(a int, b bool) int { var s S; var r S; s.x = r.x; for b { var q S; q.y = 1; } if b { return 1; } else { f(1, b); return 2; } } func main() { } type S struct { x int; y int; }",
	}
}

// roomy is a program whose lists all have room behind their ends, in which something stands that would be wrong, or right.
func roomy(p api.Prog) api.Prog {
	return roomyOf(reflect.ValueOf(p)).Interface().(api.Prog)
}

func roomyOf(v reflect.Value) reflect.Value {
	switch v.Kind() {
	case reflect.Struct:
		x := reflect.New(v.Type()).Elem()
		for i := range v.NumField() {
			x.Field(i).Set(roomyOf(v.Field(i)))
		}
		return x
	case reflect.Slice:
		x := reflect.MakeSlice(v.Type(), v.Len(), v.Len()+2)
		for i := range v.Len() {
			x.Index(i).Set(roomyOf(v.Index(i)))
		}
		behind := x.Slice(v.Len(), v.Len()+2)
		for i := range 2 {
			fill(behind.Index(i))
		}
		return x
	}
	return v
}

// fill lays something into what stands behind an end.
func fill(v reflect.Value) {
	switch x := v.Addr().Interface().(type) {
	case *api.Struct:
		*x = api.Struct{Name: "main"}
	case *api.Decl:
		*x = api.Decl{Name: "main"}
	case *api.Param:
		*x = api.Param{Name: "a", Type: api.Type{Kind: api.TyInt}}
	case *api.Stmt:
		*x = api.Stmt{Kind: api.StReturn}
	case *api.Exp:
		*x = num(1)
	case *string:
		*x = "x"
	}
}

// withRoom is a thing, with what stands in the room behind its lists, told as a text.
func withRoom(v reflect.Value) string {
	switch v.Kind() {
	case reflect.Struct:
		s := "{"
		for i := range v.NumField() {
			s += withRoom(v.Field(i)) + " "
		}
		return s + "}"
	case reflect.Slice:
		s := "["
		for i := range v.Len() {
			s += withRoom(v.Index(i)) + " "
		}
		return s + "]" + tell(v.Slice(v.Len(), v.Cap()).Interface())
	}
	return tell(v.Interface())
}

func TestWhatIsHandedIn(t *testing.T) {
	for _, text := range sources() {
		p := source(t, text)
		x, n, e := check.Program(copied(p))
		r := roomy(p)
		before := withRoom(reflect.ValueOf(r))
		got, gotN, gotErr := check.Program(r)
		if !same(got, x) || gotN != n || gotErr != e {
			t.Errorf("%s: %s, %d, error %d with room behind", text, tell(got), gotN, gotErr)
		}
		if withRoom(reflect.ValueOf(r)) != before {
			t.Errorf("%s: what was handed in was changed", text)
		}
		spoil(reflect.ValueOf(&r).Elem())
		if !same(got, x) {
			t.Errorf("%s: what was answered was changed by what was handed in: %s", text, tell(got))
		}
	}
}

// spoil turns all that is in lists, and in the room behind them.
func spoil(v reflect.Value) {
	switch v.Kind() {
	case reflect.Struct:
		for i := range v.NumField() {
			spoil(v.Field(i))
		}
	case reflect.Slice:
		for l, i := v.Slice(0, v.Cap()), 0; i < l.Len(); i++ {
			spoil(l.Index(i))
		}
	case reflect.String:
		v.SetString("spoilt")
	case reflect.Int, reflect.Int64:
		v.SetInt(99)
	case reflect.Uint8:
		v.SetUint(99)
	}
}

// room is the memory of a list, with the room behind its end.
type room struct{ from, to uintptr }

// rooms are those of all lists in a thing.
func rooms(v reflect.Value) (l []room) {
	switch v.Kind() {
	case reflect.Struct:
		for i := range v.NumField() {
			l = append(l, rooms(v.Field(i))...)
		}
	case reflect.Slice:
		if v.Cap() > 0 {
			from := v.Pointer()
			l = append(l, room{from, from + uintptr(v.Cap())*v.Type().Elem().Size()})
		}
		for i := range v.Len() {
			l = append(l, rooms(v.Index(i))...)
		}
	}
	return l
}

// Each list of an answer is its own: it shares no memory with another one, nor with one of another answer, nor with the program.
func TestEachListIsItsOwn(t *testing.T) {
	next := dice(4)
	programs := []api.Prog{source(t, all)}
	for _, text := range sources() {
		programs = append(programs, source(t, text))
	}
	for range 300 {
		programs = append(programs, made(next))
	}
	for i, p := range programs {
		p = copied(p)
		first, _, _ := check.Program(p)
		second, _, _ := check.Program(p)
		l := slices.Concat(rooms(reflect.ValueOf(p)), rooms(reflect.ValueOf(first)), rooms(reflect.ValueOf(second)))
		if i == 0 && len(l) < 140 {
			t.Fatalf("%d lists", len(l))
		}
		slices.SortFunc(l, func(a, b room) int { return cmp.Compare(a.from, b.from) })
		for k := range len(l) - 1 {
			if l[k].to > l[k+1].from {
				t.Fatalf("%s: two lists share memory", tell(p))
			}
		}
	}
}

// R5: a call ahead turns nothing.
func TestTheSameAgain(t *testing.T) {
	want := comesTo(t, source(t, all), 0, api.OK)
	for _, text := range sources() {
		check.Program(source(t, text))
		isTree(t, source(t, all), want)
		isWrong(t, source(t, "func main() { x = 1; }"), 0, api.ErrName)
	}
}
