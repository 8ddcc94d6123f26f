package unwind_test

import (
	"slices"
	"testing"

	"theodolite/api"
	"theodolite/unwind"
)

// R3: what is handed in is not changed, and not looked at again; what is answered is in memory of its own.

// roomy is a table with room behind the ends of the list itself and of what each entry says.
func roomy() []api.Unwind {
	l := make([]api.Unwind, 0, 8)
	for i := range 8 {
		regs := append(make([]api.Saved, 0, 8), saved(6, -2), saved(7, -3), saved(9, -4), saved(11, -5))
		l = append(l, api.Unwind{From: 10 * i, To: 10*i + 10, Up: int64(i), Regs: regs[:i%4]})
	}
	return l[:5]
}

// roomyView is a view with room behind the ends of its lists.
func roomyView() api.View {
	v := wide()
	return api.View{
		Known: append(make([]bool, 0, 32), v.Known...),
		Regs:  append(make([]int64, 0, 32), v.Regs...),
		Base:  77,
		Words: append(make([]int64, 0, 64), v.Words...),
	}
}

// inFull is a table with all that is behind ends.
func inFull(l []api.Unwind) []api.Unwind {
	all := clone(l[:cap(l)])
	for i := range all {
		regs := l[:cap(l)][i].Regs
		all[i].Regs = slices.Clone(regs[:cap(regs)])
	}
	return all
}

// viewInFull is a view with all that is behind ends.
func viewInFull(v api.View) api.View {
	return cloneView(api.View{Known: v.Known[:cap(v.Known)], Regs: v.Regs[:cap(v.Regs)], Base: v.Base, Words: v.Words[:cap(v.Words)]})
}

func TestWhatIsHandedInIsNotChanged(t *testing.T) {
	l, want := roomy(), inFull(roomy())
	v, wantView := roomyView(), viewInFull(roomyView())
	for name, call := range map[string]func(){
		"Right":          func() { unwind.Right(l) },
		"Put":            func() { unwind.Put(nil, l) },
		"Find":           func() { u, _ := unwind.Find(l, 32); spoil(table(u)) },
		"Find of none":   func() { unwind.Find(l, 50) },
		"Frame":          func() { f, _ := unwind.Frame(l, 32, v); spoilView(f) },
		"Frame of none":  func() { unwind.Frame(l, 50, v) },
		"Up":             func() { _, w, _ := unwind.Up(l, 32, v); spoilView(w) },
		"Up, none saved": func() { _, w, _ := unwind.Up(l, 42, v); spoilView(w) },
		"Up of no entry": func() { unwind.Up(l, 50, v) },
		"Up of wrong ones": func() {
			unwind.Up([]api.Unwind{{From: 1, To: 0, Up: -1, Regs: l[3].Regs}, {From: -1, To: 9, Regs: l[3].Regs}}, 4, v)
		},
	} {
		call()
		if !same(inFull(l), want) || !sameView(viewInFull(v), wantView) {
			t.Fatalf("%s changed what was handed in, or answers its memory: %v, %v", name, inFull(l), viewInFull(v))
		}
	}
}

func TestBytesThatAreHandedInAreNotChanged(t *testing.T) {
	whole := []byte("\x01\x0a\x0a\x03\x01\x07\x02\x00\x00\x00\x00\x00")
	kept := slices.Clone(whole)
	l, own := chapters()
	for size := range len(whole) + 1 { // 0 too: an empty list with room behind its end
		b, e := unwind.Put(whole[:size], l)
		if string(b) != string(kept[:size])+own || e != api.OK {
			t.Errorf("Put behind %d bytes: %x, error %d", size, b, e)
		}
		overwrite(b, 0xee)
		unwind.Put(whole[:size], nil)
		unwind.Put(whole[:size], table(entry(3, 3, 1)))
		for at := -1; at <= size+1; at++ {
			l, _, _ := unwind.Get(whole[:size], at)
			spoil(l)
		}
		if !slices.Equal(whole, kept) {
			t.Fatalf("%d bytes: what was handed in was changed, or its memory was answered: %x", size, whole)
		}
	}
}

func TestWhatTheCallerChangesLater(t *testing.T) {
	l, v := roomy(), roomyView()
	b, _ := unwind.Put(nil, l)
	u, _ := unwind.Find(l, 32)
	f, _ := unwind.Frame(l, 32, v)
	back, w, _ := unwind.Up(l, 32, v)
	got, _, _ := unwind.Get(b, 0)
	spoil(l)
	spoilView(v)
	l, v = roomy(), roomyView()
	if string(b) != own(l) {
		t.Errorf("an answer was changed: %x", b)
	}
	overwrite(b, 0xee)
	if !sameEntry(u, l[3]) || !same(got, l) {
		t.Errorf("an answer was changed: %v, %v", u, got)
	}
	frame, _ := based(l, 32, v)
	way, view, _ := above(l, 32, v)
	if !sameView(f, frame) || back != way || !sameView(w, view) {
		t.Errorf("an answer was changed: %v, %d, %v", f, back, w)
	}
}

// isOfItsOwn: what one entry says can be changed, and what is behind that, and the list can grow, without changing others.
func isOfItsOwn(t *testing.T, answer func() []api.Unwind) {
	t.Helper()
	want := clone(answer())
	for i := range want {
		l, other := answer(), answer()
		overwrite(l[i].Regs, saved(99, 99))
		l[i].Regs = want[i].Regs
		if !same(l, want) || !same(other, want) {
			t.Errorf("what entry %d says is what another one says, too: %v, %v", i, l, other)
		}
	}
	one, other := answer(), answer()
	overwrite(one, entry(98, 99, 99))
	if !same(other, want) {
		t.Errorf("two answers are one: %v", other)
	}
}

func TestWhatIsAnsweredIsOfItsOwn(t *testing.T) {
	shared := []api.Saved{saved(6, -2), saved(8, -3)} // one memory for all entries
	l := []api.Unwind{{From: 0, To: 3, Up: 1, Regs: shared}, {From: 3, To: 9, Up: 2, Regs: shared}, {From: 12, To: 20, Up: 3, Regs: shared}, {From: 20, To: 30, Up: 4, Regs: shared}}
	b := []byte(own(l))
	isOfItsOwn(t, func() []api.Unwind { got, _, _ := unwind.Get(b, 0); return got })
	isOfItsOwn(t, func() []api.Unwind { u, _ := unwind.Find(l, 4); return table(u) })
	first, _ := unwind.Put(nil, l)
	second, _ := unwind.Put(nil, l)
	overwrite(second, 0xee)
	if string(first) != own(l) {
		t.Errorf("two answers are one: %x", first)
	}
	if !slices.Equal(shared, []api.Saved{saved(6, -2), saved(8, -3)}) {
		t.Errorf("what was handed in was changed: %v", shared)
	}
}

func TestViewsThatAreAnsweredAreOfTheirOwn(t *testing.T) {
	one := append(make([]int64, 0, 40), wide().Words[:30]...)
	v := api.View{Known: wide().Known, Regs: one[:16:16], Words: one} // registers and words in one memory
	v.Regs[15] = 10
	want := cloneView(v)
	l := table(entry(3, 5, 3, saved(7, -2)))
	for name, answer := range map[string]func() api.View{
		"Frame": func() api.View { f, _ := unwind.Frame(l, 4, v); return f },
		"Up":    func() api.View { _, w, _ := unwind.Up(l, 4, v); return w },
	} {
		first, second := answer(), answer()
		kept := cloneView(first)
		spoilView(second)
		if !sameView(first, kept) || !sameView(v, want) {
			t.Errorf("%s: two answers are one, or are what was handed in: %v, %v", name, first, v)
		}
		overwrite(first.Regs, -99)
		if !slices.Equal(first.Words, kept.Words) {
			t.Errorf("%s: registers and words are in one memory: %v", name, first)
		}
	}
}
