package locs_test

import (
	"slices"
	"testing"

	"theodolite/api"
	"theodolite/locs"
)

// R3: what is handed in is not changed, and not looked at again; what is answered is in memory of its own.

// roomy is a list with room behind the ends of the list itself and of each span's steps.
func roomy() []api.Span {
	l := make([]api.Span, 0, 8)
	for i := range 8 {
		at := append(make([]api.Loc, 0, 8), reg(2), neg(), neg(), num(5))
		l = append(l, api.Span{From: 10 * i, To: 10*i + 10, At: at[:1+i/2%3]})
	}
	return l[:5]
}

// inFull is a list with all that is behind ends.
func inFull(l []api.Span) []api.Span {
	all := clone(l[:cap(l)])
	for i := range all {
		at := l[:cap(l)][i].At
		all[i].At = slices.Clone(at[:cap(at)])
	}
	return all
}

func TestWhatIsHandedInIsNotChanged(t *testing.T) {
	l, want := roomy(), inFull(roomy())
	for name, call := range map[string]func(){
		"Right":          func() { locs.Right(l) },
		"Put":            func() { locs.Put(nil, l) },
		"At":             func() { overwrite(locs.At(l, 12), num(9)) },
		"Cut":            func() { spoil(locs.Cut(l, 12, 35)) },
		"Cut inside":     func() { spoil(locs.Cut(l, 12, 13)) },
		"Cut of nothing": func() { spoil(locs.Cut(l, 12, 12)) },
		"Cut outside":    func() { spoil(locs.Cut(l, 90, 99)) },
		"Cut of all":     func() { spoil(locs.Cut(l, 0, 99)) },
		"Join":           func() { spoil(locs.Join(l)) },
	} {
		call()
		if !same(inFull(l), want) {
			t.Fatalf("%s changed what was handed in, or answers its memory: %v", name, inFull(l))
		}
	}
}

func TestBytesThatAreHandedInAreNotChanged(t *testing.T) {
	whole := []byte("\x02\x03\x02\x01\x02\x02\x00\x04\x01\x01\x07\x00\x00")
	kept := slices.Clone(whole)
	l, own := chapters()
	for size := range len(whole) + 1 { // 0 too: an empty list with room behind its end
		b, e := locs.Put(whole[:size], l)
		if string(b) != string(kept[:size])+own || e != api.OK {
			t.Errorf("Put behind %d bytes: %x, error %d", size, b, e)
		}
		overwrite(b, 0xee)
		locs.Put(whole[:size], list(span(3, 3, reg(1))))
		for at := -1; at <= size+1; at++ {
			l, _, _ := locs.Get(whole[:size], at)
			spoil(l)
		}
		if !slices.Equal(whole, kept) {
			t.Fatalf("%d bytes: what was handed in was changed, or its memory was answered: %x", size, whole)
		}
	}
}

func TestWhatTheCallerChangesLater(t *testing.T) {
	l := roomy()
	b, _ := locs.Put(nil, l)
	at := locs.At(l, 12)
	cut := locs.Cut(l, 12, 13)
	none := locs.Cut(l, 13, 12)
	joined := locs.Join(l)
	got, _, _ := locs.Get(b, 0)
	spoil(l)
	l = roomy()
	if string(b) != own(l) {
		t.Errorf("an answer was changed: %x", b)
	}
	overwrite(b, 0xee)
	if !slices.Equal(at, row(reg(2))) || !same(got, l) || !same(none, l) {
		t.Errorf("an answer was changed: %v, %v, %v", at, got, none)
	}
	if !same(cut, left(l, 12, 13, 99)) || !same(joined, whole(l, 99)) {
		t.Errorf("an answer was changed: %v, %v", cut, joined)
	}
}

// isOfItsOwn: the steps of one span can be changed, and what is behind them, and the list can grow, without changing others.
func isOfItsOwn(t *testing.T, answer func() []api.Span) {
	t.Helper()
	want := clone(answer())
	for i := range want {
		l, other := answer(), answer()
		overwrite(l[i].At, num(99))
		l[i].At = want[i].At
		if !same(l, want) || !same(other, want) {
			t.Errorf("the steps of span %d are those of another one, too: %v, %v", i, l, other)
		}
	}
	one, other := answer(), answer()
	overwrite(one, span(98, 99, num(99)))
	if !same(other, want) {
		t.Errorf("two answers are one: %v", other)
	}
}

func TestWhatIsAnsweredIsOfItsOwn(t *testing.T) {
	shared := row(reg(2)) // one memory for all spans
	l := []api.Span{{From: 0, To: 3, At: shared}, {From: 3, To: 9, At: shared}, {From: 12, To: 20, At: shared}, {From: 20, To: 30, At: shared}}
	b := []byte(own(l))
	isOfItsOwn(t, func() []api.Span { got, _, _ := locs.Get(b, 0); return got })
	isOfItsOwn(t, func() []api.Span { return locs.Cut(l, 14, 15) })
	isOfItsOwn(t, func() []api.Span { return locs.Cut(l, 2, 13) })
	isOfItsOwn(t, func() []api.Span { return locs.Cut(l, 40, 50) })
	isOfItsOwn(t, func() []api.Span { return locs.Cut(l, 5, 5) })
	isOfItsOwn(t, func() []api.Span { return locs.Join(l) })
	isOfItsOwn(t, func() []api.Span { return locs.Join(l[2:]) })
	isOfItsOwn(t, func() []api.Span { return locs.Join(l[1:3]) })
	if !same(l, list(span(0, 3, reg(2)), span(3, 9, reg(2)), span(12, 20, reg(2)), span(20, 30, reg(2)))) {
		t.Errorf("what was handed in was changed: %v", l)
	}
	one, other := locs.At(l, 4), locs.At(l, 4)
	overwrite(one, num(99))
	if !slices.Equal(other, row(reg(2))) || !slices.Equal(shared, row(reg(2))) {
		t.Errorf("two answers are one: %v, %v", other, shared)
	}
	first, _ := locs.Put(nil, l)
	second, _ := locs.Put(nil, l)
	overwrite(second, 0xee)
	if string(first) != own(l) {
		t.Errorf("two answers are one: %x", first)
	}
}
