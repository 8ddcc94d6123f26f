package dom_test

import (
	"reflect"
	"runtime"
	"slices"
	"testing"

	"theodolite/api"
	"theodolite/dom"
)

// R3: what is handed in is not changed and not kept, and each list that is answered is its own. R5: it hangs on nothing else.

// some are functions with lists of all kinds; behind the end of each list stands what would be met if it were longer.
func some() []api.Func {
	next := dice(3)
	var l []api.Func
	for range 200 {
		f := thrown(next, 1+next(30), 1+next(9))
		f.Vars = append(make([]api.Var, 0, 3), api.Var{Name: "x", Words: 1})
		for b := range f.Blocks {
			f.Blocks[b].Ins = append(make([]api.Ins, 0, 2), api.Ins{Op: api.InsCall, Args: append(make([]int, 0, 2), b)})
		}
		f.Blocks = append(f.Blocks, api.Block{Term: fork(0, 1)}, api.Block{Term: jump(0)})[:len(f.Blocks)]
		l = append(l, f)
	}
	return l
}

// copied is a function in memory of its own, with what stands behind its blocks.
func copied(f api.Func) api.Func {
	whole := slices.Clone(f.Blocks[:cap(f.Blocks)])
	for b := range whole {
		whole[b].Ins = slices.Clone(whole[b].Ins[:cap(whole[b].Ins)])
		for i := range whole[b].Ins {
			whole[b].Ins[i].Args = slices.Clone(whole[b].Ins[i].Args[:cap(whole[b].Ins[i].Args)])
		}
	}
	f.Vars = slices.Clone(f.Vars[:cap(f.Vars)])
	f.Blocks = whole
	return f
}

func TestWhatIsHandedIn(t *testing.T) {
	for _, f := range some() {
		before := copied(f)
		ways, over, edge := dom.Ways(f), dom.Over(f), dom.Edge(f)
		if !reflect.DeepEqual(copied(f), before) {
			t.Fatalf("%s: what was handed in was changed", tell(f))
		}
		m := modelOf(f)
		for b := range f.Blocks {
			f.Blocks[b] = api.Block{Term: jump(0)}
		}
		if !sameLists(ways, m.into) || !slices.Equal(over, m.nearest()) || !sameLists(edge, m.edges()) {
			t.Fatalf("%s: what was answered was changed by what was handed in", tell(f))
		}
		asked := append(slices.Clone(over), 0, 0, 0)[:len(over)]
		whole := slices.Clone(asked[:cap(asked)])
		for b := range asked {
			dom.Has(asked, 0, b)
			dom.Has(asked, b, len(over)-1)
		}
		if !slices.Equal(asked[:cap(asked)], whole) {
			t.Fatalf("Has changed %v to %v", whole, asked[:cap(asked)])
		}
		if dom.Has(asked, len(asked), len(asked)) {
			t.Fatalf("Has looks behind the end of %v", asked)
		}
	}
}

// room is the memory of a list, with the room behind its end.
type room struct{ from, to uintptr }

func roomOf[T any](l []T) room {
	v := reflect.ValueOf(l)
	from := v.Pointer()
	return room{from, from + uintptr(cap(l))*v.Type().Elem().Size()}
}

// roomsOf are those of a list of lists, and of each in it.
func roomsOf(l [][]int) []room {
	all := []room{roomOf(l)}
	for _, x := range l {
		all = append(all, roomOf(x))
	}
	return all
}

func TestEachListIsItsOwn(t *testing.T) {
	most := 0
	for _, f := range some() {
		ways, again := dom.Ways(f), dom.Ways(f) // both stay, so that no memory is given twice
		over, more := dom.Over(f), dom.Over(f)
		edge, other := dom.Edge(f), dom.Edge(f)
		l := slices.Concat(roomsOf(ways), roomsOf(again), roomsOf(edge), roomsOf(other), []room{roomOf(over), roomOf(more), roomOf(f.Blocks)})
		runtime.KeepAlive([]any{f, ways, again, over, more, edge, other})
		l = slices.DeleteFunc(l, func(r room) bool { return r.from == r.to })
		most = max(most, len(l))
		slices.SortFunc(l, func(a, b room) int { return int(a.from) - int(b.from) })
		for k := range len(l) - 1 {
			if l[k].to > l[k+1].from {
				t.Fatalf("%s: two lists share memory", tell(f))
			}
		}
	}
	if most < 60 {
		t.Errorf("at most %d lists", most)
	}
}

// A call ahead turns nothing.
func TestTheSameAgain(t *testing.T) {
	l := some()
	over, edge, ways := dom.Over(l[7]), dom.Edge(l[7]), dom.Ways(l[7])
	for _, f := range l {
		first := dom.Over(f)
		if !slices.Equal(dom.Over(l[7]), over) || !sameLists(dom.Edge(l[7]), edge) || !sameLists(dom.Ways(l[7]), ways) {
			t.Fatalf("behind %s, %s is told otherwise", tell(f), tell(l[7]))
		}
		if got := dom.Over(f); !slices.Equal(got, first) {
			t.Fatalf("Over(%s): %v, and %v ahead of that", tell(f), got, first)
		}
	}
}
