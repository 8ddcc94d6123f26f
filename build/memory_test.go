package build_test

import (
	"cmp"
	"reflect"
	"runtime"
	"slices"
	"testing"

	"theodolite/api"
	"theodolite/build"
)

// R3: what is handed in is not changed and not kept, and what is answered is in memory of its own, but for Vars and Points. R5: it hangs on nothing else.

// trees are some with lists of each sort.
func trees(t *testing.T) []api.Tree {
	l := []api.Tree{source(t, whole), source(t, counting), source(t, "func main() { }"), source(t, `type T struct { k int; l int; }
func f(n int, b bool, m int) int { var a [4]int; var s T; a[n] = a[m] - 1; s.l = s.k; if b { n = f(n - 1, !b, a[2]); f(1, b, 2); g(); return n; } else { for n < 10 { n = n + 1; } n = input(); } return -n; }
func g() { return; }
func main() { f(1, true, 2); f(1, false, 3); g(); print(1); }`)}
	next := dice(2)
	for range 300 {
		l = append(l, checked(t, made(next)))
	}
	return l
}

// copied is a thing in memory of its own; the room behind each list's end has so many more, which are filled.
func copied[T any](x T, room int) T { return copyOf(reflect.ValueOf(x), room).Interface().(T) }

func copyOf(v reflect.Value, room int) reflect.Value {
	switch v.Kind() {
	case reflect.Struct:
		x := reflect.New(v.Type()).Elem()
		for i := range v.NumField() {
			x.Field(i).Set(copyOf(v.Field(i), room))
		}
		return x
	case reflect.Slice:
		x := reflect.MakeSlice(v.Type(), v.Len(), v.Len()+room)
		for i := range v.Len() {
			x.Index(i).Set(copyOf(v.Index(i), room))
		}
		behind := x.Slice(v.Len(), v.Len()+room)
		for i := range room {
			spoil(behind.Index(i))
		}
		return x
	}
	return v
}

// spoil turns a thing, and all that is in its lists and in the room behind them.
func spoil(v reflect.Value) {
	switch v.Kind() {
	case reflect.Struct:
		for i := range v.NumField() {
			spoil(v.Field(i))
		}
	case reflect.Slice:
		for l, i := v.Slice(0, v.Cap()), 0; i < l.Len(); i++ {
			spoil(l.Index(i))
		}
	case reflect.String:
		v.SetString("spoilt")
	case reflect.Int, reflect.Int64:
		v.SetInt(1)
	case reflect.Uint8:
		v.SetUint(1)
	case reflect.Bool:
		v.SetBool(true)
	}
}

// withRoom is a thing with what stands in the room behind its lists, which are made longer by it.
func withRoom(v reflect.Value) reflect.Value {
	switch v.Kind() {
	case reflect.Struct:
		x := reflect.New(v.Type()).Elem()
		for i := range v.NumField() {
			x.Field(i).Set(withRoom(v.Field(i)))
		}
		return x
	case reflect.Slice:
		x := reflect.MakeSlice(v.Type(), v.Cap(), v.Cap())
		for l, i := v.Slice(0, v.Cap()), 0; i < v.Cap(); i++ {
			x.Index(i).Set(withRoom(l.Index(i)))
		}
		return x
	}
	return v
}

// actsOf are the lists of a tree that a unit may not share.
func actsOf(x api.Tree) [][]api.Act {
	var l [][]api.Act
	for _, b := range x.Bodies {
		l = append(l, b.Acts)
	}
	return l
}

func TestWhatIsHandedIn(t *testing.T) {
	for _, x := range trees(t) {
		want := copied(build.Program(x), 0)
		roomy := copied(x, 2)
		before := withRoom(reflect.ValueOf(roomy)).Interface()
		got := build.Program(roomy)
		if !same(got, want) {
			t.Fatalf("%s: %s with room behind, want %s", tell(x), tell(got), tell(want))
		}
		if !same(withRoom(reflect.ValueOf(roomy)).Interface(), before) {
			t.Fatalf("%s: what was handed in was changed", tell(x))
		}
		for i := range roomy.Bodies {
			b := &roomy.Bodies[i]
			b.Name, b.Params, b.Result = "spoilt", 1, !b.Result
			spoil(reflect.ValueOf(&b.Acts).Elem())
		}
		roomy.Main = 9
		if !same(got, want) {
			t.Fatalf("%s: what was answered was changed by what was handed in: %s", tell(x), tell(got))
		}
	}
}

// room is the memory of a list, with the room behind its end.
type room struct{ from, to uintptr }

// rooms are those of all lists in a thing, but of Vars and Points.
func rooms(v reflect.Value) (l []room) {
	switch v.Kind() {
	case reflect.Struct:
		for i := range v.NumField() {
			if name := v.Type().Field(i).Name; name != "Vars" && name != "Points" {
				l = append(l, rooms(v.Field(i))...)
			}
		}
	case reflect.Slice:
		if v.Cap() > 0 {
			from := v.Pointer()
			l = append(l, room{from, from + uintptr(v.Cap())*v.Type().Elem().Size()})
		}
		for i := range v.Len() {
			l = append(l, rooms(v.Index(i))...)
		}
	}
	return l
}

// Each list of an answer is its own: it shares no memory with another one, nor with one of another answer, nor with the tree.
func TestEachListIsItsOwn(t *testing.T) {
	most := 0
	for _, x := range trees(t) {
		x = copied(x, 0)
		first, second := build.Program(x), build.Program(x) // both stay, so that no memory is given twice
		l := slices.Concat(rooms(reflect.ValueOf(actsOf(x))), rooms(reflect.ValueOf(first)), rooms(reflect.ValueOf(second)))
		runtime.KeepAlive([]any{x, first, second})
		most = max(most, len(l))
		slices.SortFunc(l, func(a, b room) int { return cmp.Compare(a.from, b.from) })
		for k := range len(l) - 1 {
			if l[k].to > l[k+1].from {
				t.Fatalf("%s: two lists share memory", tell(x))
			}
		}
	}
	if most < 100 {
		t.Errorf("at most %d lists", most)
	}
}

// A call ahead turns nothing.
func TestTheSameAgain(t *testing.T) {
	l := trees(t)
	want := copied(build.Program(l[3]), 0)
	for _, x := range l {
		first := copied(build.Program(x), 0)
		if got := build.Program(l[3]); !same(got, want) {
			t.Fatalf("%s, want %s", tell(got), tell(want))
		}
		if got := build.Program(x); !same(got, first) {
			t.Fatalf("%s, want %s", tell(got), tell(first))
		}
	}
}
