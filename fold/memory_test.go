package fold_test

import (
	"cmp"
	"reflect"
	"runtime"
	"slices"
	"testing"

	"theodolite/api"
	"theodolite/fold"
)

// R3: what is handed in is not changed and not kept, and what is answered is in memory of its own, but for Vars and Points. R5: it hangs on nothing else.

// units are some with lists of each sort.
func units(t *testing.T) []api.Unit {
	l := []api.Unit{
		source(t, "func main() { }"),
		source(t, "func f(n int, b bool) int { for b { n = f(n, !b); b = n > 0; } return n; } func main() { f(1, true); f(1, false); }"),
	}
	next := dice(20)
	for range 300 {
		u := made(next, 1+next(8))
		filledUp(&u, next(3))
		l = append(l, u)
	}
	return l
}

// copied is a thing in memory of its own; the room behind each list's end has so many more, which are filled.
func copied[T any](x T, room int) T { return copyOf(reflect.ValueOf(x), room).Interface().(T) }

func copyOf(v reflect.Value, room int) reflect.Value {
	switch v.Kind() {
	case reflect.Struct:
		x := reflect.New(v.Type()).Elem()
		for i := range v.NumField() {
			x.Field(i).Set(copyOf(v.Field(i), room))
		}
		return x
	case reflect.Slice:
		x := reflect.MakeSlice(v.Type(), v.Len(), v.Len()+room)
		for i := range v.Len() {
			x.Index(i).Set(copyOf(v.Index(i), room))
		}
		behind := x.Slice(v.Len(), v.Len()+room)
		for i := range room {
			spoil(behind.Index(i))
		}
		return x
	}
	return v
}

// spoil turns a thing, and all that is in its lists and in the room behind them.
func spoil(v reflect.Value) {
	switch v.Kind() {
	case reflect.Struct:
		for i := range v.NumField() {
			spoil(v.Field(i))
		}
	case reflect.Slice:
		for l, i := v.Slice(0, v.Cap()), 0; i < l.Len(); i++ {
			spoil(l.Index(i))
		}
	case reflect.String:
		v.SetString("spoilt")
	case reflect.Int, reflect.Int64:
		v.SetInt(1)
	case reflect.Uint8:
		v.SetUint(uint64(api.InsSet))
	case reflect.Bool:
		v.SetBool(true)
	}
}

// withRoom is a thing with what stands in the room behind its lists, which are made longer by it.
func withRoom(v reflect.Value) reflect.Value {
	switch v.Kind() {
	case reflect.Struct:
		x := reflect.New(v.Type()).Elem()
		for i := range v.NumField() {
			x.Field(i).Set(withRoom(v.Field(i)))
		}
		return x
	case reflect.Slice:
		x := reflect.MakeSlice(v.Type(), v.Cap(), v.Cap())
		for l, i := v.Slice(0, v.Cap()), 0; i < v.Cap(); i++ {
			x.Index(i).Set(withRoom(l.Index(i)))
		}
		return x
	}
	return v
}

func TestWhatIsHandedIn(t *testing.T) {
	for _, u := range units(t) {
		want := copied(fold.Unit(u), 0)
		roomy := copied(u, 2)
		before := withRoom(reflect.ValueOf(roomy)).Interface()
		got := fold.Unit(roomy)
		if !same(got, want) {
			t.Fatalf("%s: %s with room behind, want %s", tell(u), tell(got), tell(want))
		}
		if !same(withRoom(reflect.ValueOf(roomy)).Interface(), before) {
			t.Fatalf("%s: what was handed in was changed", tell(u))
		}
		for i := range roomy.Funcs {
			f := &roomy.Funcs[i]
			f.Name, f.Params, f.Result, f.Size = "spoilt", 1, !f.Result, 1
			spoil(reflect.ValueOf(&f.Blocks).Elem())
		}
		roomy.Main = 9
		if !same(got, want) {
			t.Fatalf("%s: what was answered was changed by what was handed in: %s", tell(u), tell(got))
		}
	}
}

// room is the memory of a list, with the room behind its end.
type room struct{ from, to uintptr }

// rooms are those of all lists in a thing, but of Vars and Points.
func rooms(v reflect.Value) (l []room) {
	switch v.Kind() {
	case reflect.Struct:
		for i := range v.NumField() {
			if name := v.Type().Field(i).Name; name != "Vars" && name != "Points" {
				l = append(l, rooms(v.Field(i))...)
			}
		}
	case reflect.Slice:
		if v.Cap() > 0 {
			from := v.Pointer()
			l = append(l, room{from, from + uintptr(v.Cap())*v.Type().Elem().Size()})
		}
		for i := range v.Len() {
			l = append(l, rooms(v.Index(i))...)
		}
	}
	return l
}

// Each list of an answer is its own: it shares no memory with another one, nor with one of another answer, nor with what was handed in.
func TestEachListIsItsOwn(t *testing.T) {
	most := 0
	for _, u := range units(t) {
		u = copied(u, 0)
		first, second := fold.Unit(u), fold.Unit(u) // both stay, so that no memory is given twice
		l := slices.Concat(rooms(reflect.ValueOf(u)), rooms(reflect.ValueOf(first)), rooms(reflect.ValueOf(second)))
		runtime.KeepAlive([]any{u, first, second})
		most = max(most, len(l))
		slices.SortFunc(l, func(a, b room) int { return cmp.Compare(a.from, b.from) })
		for k := range len(l) - 1 {
			if l[k].to > l[k+1].from {
				t.Fatalf("%s: two lists share memory", tell(u))
			}
		}
	}
	if most < 100 {
		t.Errorf("at most %d lists", most)
	}
}

// A call ahead turns nothing.
func TestTheSameAgain(t *testing.T) {
	l := units(t)
	want := copied(fold.Unit(l[1]), 0)
	for _, u := range l {
		first := copied(fold.Unit(u), 0)
		if got := fold.Unit(l[1]); !same(got, want) {
			t.Fatalf("%s, want %s", tell(got), tell(want))
		}
		if got := fold.Unit(u); !same(got, first) {
			t.Fatalf("%s, want %s", tell(got), tell(first))
		}
	}
}
