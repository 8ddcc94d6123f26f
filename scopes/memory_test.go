package scopes_test

import (
	"slices"
	"testing"

	"theodolite/api"
	"theodolite/scopes"
)

// R3: what is handed in is not changed, and not looked at again; what is answered is in memory of its own.

// room is a list with room behind its end, in which more stands.
func room[T any](l []T, more T) []T {
	out := append(make([]T, 0, len(l)+4), l...)
	return append(out, more, more, more, more)[:len(l)]
}

// full is a list with all that stands behind its end.
func full[T any](l []T) []T { return l[:cap(l)] }

// roomy is a right table with room behind the end of each of its lists.
func roomy() ([]api.Place, []api.Point) {
	l, p := wide()
	for i := range l {
		for k, v := range l[i].Vars {
			l[i].Vars[k].Fields = room(v.Fields, "more")
			for n, s := range l[i].Spans[k] {
				l[i].Spans[k][n].At = room(s.At, api.Loc{Kind: 9, N: 9})
			}
			l[i].Spans[k] = room(l[i].Spans[k], span(7, 6, 5))
		}
		l[i].Vars, l[i].Spans = room(l[i].Vars, whole("more")), room(l[i].Spans, nil)
	}
	for i := range p {
		p[i].Scope = room(p[i].Scope, -9)
	}
	return room(l, place("more", 9, 8)), room(p, point(-9, -9))
}

// deep is a copy of a table, of which each list has within its end what stood behind it.
func deep(l []api.Place, p []api.Point) ([]api.Place, []api.Point) {
	l, p = slices.Clone(full(l)), slices.Clone(full(p))
	for i := range l {
		l[i].Vars, l[i].Spans = slices.Clone(full(l[i].Vars)), slices.Clone(full(l[i].Spans))
		for k := range l[i].Vars {
			l[i].Vars[k].Fields = full(l[i].Vars[k].Fields)
		}
		for k := range l[i].Spans {
			l[i].Spans[k] = slices.Clone(full(l[i].Spans[k]))
			for n := range l[i].Spans[k] {
				l[i].Spans[k][n].At = full(l[i].Spans[k][n].At)
			}
		}
	}
	for i := range p {
		p[i].Scope = full(p[i].Scope)
	}
	return clone(l), clonePoints(p)
}

// overwrite fills a list, and the room behind its end.
func overwrite[T any](l []T, x T) {
	for i := range full(l) {
		full(l)[i] = x
	}
}

// spoil overwrites each list of a table.
func spoil(l []api.Place, p []api.Point) {
	for _, x := range l {
		for _, v := range x.Vars {
			overwrite(v.Fields, "spoilt")
		}
		for _, spans := range x.Spans {
			for _, s := range spans {
				overwrite(s.At, api.Loc{Kind: 99, N: 99})
			}
			overwrite(spans, span(98, 97, 96))
		}
		overwrite(x.Vars, whole("spoilt"))
		overwrite(x.Spans, []api.Span{span(98, 97, 96)})
	}
	for _, x := range p {
		overwrite(x.Scope, 99)
	}
	overwrite(l, place("spoilt", 99, 98))
	overwrite(p, point(99, 99, 99))
}

func TestWhatIsHandedInIsNotChanged(t *testing.T) {
	l, p := roomy()
	wantPlaces, wantPoints := deep(roomy())
	for name, call := range map[string]func(){
		"Right":          func() { scopes.Right(l, p) },
		"Right of wrong": func() { scopes.Right(full(l), full(p)) },
		"Put":            func() { b, _ := scopes.Put(nil, l, p); overwrite(b, 0xee) },
		"Put of wrong":   func() { scopes.Put(nil, full(l), p) },
		"In":             func() { scopes.In(l, 400) },
		"Named":          func() { scopes.Named(l, p, 0, "a") },
		"Named of none":  func() { scopes.Named(l, p, 0, "none") },
	} {
		call()
		if gotPlaces, gotPoints := deep(l, p); !same(gotPlaces, wantPlaces) || !samePoints(gotPoints, wantPoints) {
			t.Fatalf("%s changed what was handed in: %v, %v", name, gotPlaces, gotPoints)
		}
	}
}

func TestBytesThatAreHandedInAreNotChanged(t *testing.T) {
	l, p, own := chapters()
	all := []byte(own + "\x00\x00\x00\x00\x00\x00")
	kept := slices.Clone(all)
	for size := range len(all) + 1 { // 0 too: an empty list with room behind its end
		b, e := scopes.Put(all[:size], l, p)
		if string(b) != string(kept[:size])+own || e != api.OK {
			t.Errorf("Put behind %d bytes: %x, error %d", size, b, e)
		}
		overwrite(b, 0xee)
		scopes.Put(all[:size], nil, nil)
		scopes.Put(all[:size], places(place("", 3, 3)), nil)
		for at := -1; at <= size+1; at++ {
			l, p, _, _ := scopes.Get(all[:size], at)
			spoil(l, p)
		}
		if !slices.Equal(all, kept) {
			t.Fatalf("%d bytes: what was handed in was changed, or its memory was answered: %x", size, all)
		}
	}
}

func TestWhatTheCallerChangesLater(t *testing.T) {
	l, p := roomy()
	b, _ := scopes.Put(nil, l, p)
	gotPlaces, gotPoints, _, _ := scopes.Get(b, 0)
	spoil(l, p)
	l, p = wide()
	if string(b) != own(l, p) {
		t.Errorf("an answer was changed: %x", b)
	}
	overwrite(b, 0xee)
	if !same(gotPlaces, l) || !samePoints(gotPoints, p) {
		t.Errorf("an answer was changed: %v, %v", gotPlaces, gotPoints)
	}
}

// Each list of an answer can be changed, and what is behind its end, without changing another list of it, nor another answer.
func TestWhatIsGotIsOfItsOwn(t *testing.T) {
	wantPlaces, wantPoints := wide()
	b := []byte(own(wantPlaces, wantPoints))
	for _, turn := range turns(wantPlaces, wantPoints) {
		l, p, _, _ := scopes.Get(b, 0)
		other, others, _, _ := scopes.Get(b, 0)
		turn(l, p)
		if !same(other, wantPlaces) || !samePoints(others, wantPoints) {
			t.Errorf("two answers are one: %v, %v", other, others)
		}
		if !same(l, wantPlaces) || !samePoints(p, wantPoints) {
			t.Errorf("two lists of an answer are one: %v, %v", l, p)
		}
	}
	first, _ := scopes.Put(nil, wantPlaces, wantPoints)
	second, _ := scopes.Put(nil, wantPlaces, wantPoints)
	overwrite(second, 0xee)
	if string(first) != string(b) {
		t.Errorf("two answers are one: %x", first)
	}
}

// turns overwrite one list of a table each, with the room behind its end, and lay one like the first there instead.
func turns(wantPlaces []api.Place, wantPoints []api.Point) (all []func(l []api.Place, p []api.Point)) {
	like := func() []api.Place { return clone(wantPlaces) }
	for i, x := range wantPlaces {
		all = append(all, func(l []api.Place, p []api.Point) { overwrite(l[i].Vars, whole("q")); l[i].Vars = like()[i].Vars })
		all = append(all, func(l []api.Place, p []api.Point) { overwrite(l[i].Spans, nil); l[i].Spans = like()[i].Spans })
		for k := range x.Vars {
			all = append(all, func(l []api.Place, p []api.Point) {
				overwrite(l[i].Vars[k].Fields, "q")
				l[i].Vars[k].Fields = like()[i].Vars[k].Fields
			})
			all = append(all, func(l []api.Place, p []api.Point) {
				overwrite(l[i].Spans[k], span(9, 8, 7))
				l[i].Spans[k] = like()[i].Spans[k]
			})
			for n := range x.Spans[k] {
				all = append(all, func(l []api.Place, p []api.Point) {
					overwrite(l[i].Spans[k][n].At, api.Loc{Kind: 99, N: 99})
					l[i].Spans[k][n].At = like()[i].Spans[k][n].At
				})
			}
		}
	}
	for i := range wantPoints {
		all = append(all, func(l []api.Place, p []api.Point) {
			overwrite(p[i].Scope, 99)
			p[i].Scope = clonePoints(wantPoints)[i].Scope
		})
	}
	return all
}
