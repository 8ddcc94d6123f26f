package sound_test

import (
	"reflect"
	"testing"

	"theodolite/api"
)

// R3: what is handed in is not changed, the room behind lists' ends neither, and that is not looked at. R5: an answer hangs on nothing else.

// units are some, of all answers.
func units() []api.Unit {
	l := []api.Unit{sample(), {}, inMain(), inMain(block(ret(-1), put(0), num(0, 2)))}
	next := dice(20)
	for n := range 400 {
		u := made(next, 1+next(6))
		for range n % 3 {
			turned(next, &u)
		}
		l = append(l, u)
	}
	return l
}

// copied is a thing in memory of its own; the room behind each list's end has so many more, which are filled.
func copied[T any](x T, room int) T { return copyOf(reflect.ValueOf(x), room).Interface().(T) }

func copyOf(v reflect.Value, room int) reflect.Value {
	switch v.Kind() {
	case reflect.Struct:
		x := reflect.New(v.Type()).Elem()
		for i := range v.NumField() {
			x.Field(i).Set(copyOf(v.Field(i), room))
		}
		return x
	case reflect.Slice:
		x := reflect.MakeSlice(v.Type(), v.Len(), v.Len()+room)
		for i := range v.Len() {
			x.Index(i).Set(copyOf(v.Index(i), room))
		}
		behind := x.Slice(v.Len(), v.Len()+room)
		for i := range room {
			if v.Len() > 0 {
				behind.Index(i).Set(copyOf(v.Index(i%v.Len()), 0))
			}
		}
		return x
	}
	return v
}

// withRoom is a thing with what stands in the room behind its lists, which are made longer by it.
func withRoom(v reflect.Value) reflect.Value {
	switch v.Kind() {
	case reflect.Struct:
		x := reflect.New(v.Type()).Elem()
		for i := range v.NumField() {
			x.Field(i).Set(withRoom(v.Field(i)))
		}
		return x
	case reflect.Slice:
		x := reflect.MakeSlice(v.Type(), v.Cap(), v.Cap())
		for l, i := v.Slice(0, v.Cap()), 0; i < v.Cap(); i++ {
			x.Index(i).Set(withRoom(l.Index(i)))
		}
		return x
	}
	return v
}

func TestWhatIsHandedIn(t *testing.T) {
	for _, u := range units() {
		if !isTold(u) {
			continue
		}
		want := rightAnswer(u)
		roomy := copied(u, 2)
		before := withRoom(reflect.ValueOf(roomy)).Interface()
		answers(t, roomy, want)
		if !reflect.DeepEqual(withRoom(reflect.ValueOf(roomy)).Interface(), before) {
			t.Fatalf("%s: what was handed in was changed", tell(u))
		}
	}
}

func TestTheSameAgain(t *testing.T) {
	l := units()
	want := asked(l[3])
	for _, u := range l {
		first := asked(u)
		answers(t, l[3], want)
		answers(t, u, first)
	}
}
