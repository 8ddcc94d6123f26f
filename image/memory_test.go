package image_test

import (
	"slices"
	"testing"

	"theodolite/api"
	"theodolite/image"
)

// R3: what is handed in is not changed, and not looked at again; what is answered is in memory of its own.

// room is a list with room behind its end, in which more stands.
func room[T any](l []T, more T) []T {
	out := append(make([]T, 0, len(l)+4), l...)
	return append(out, more, more, more, more)[:len(l)]
}

// full is a list with all that stands behind its end.
func full[T any](l []T) []T { return l[:cap(l)] }

// roomy is the image two, with room behind the end of each of its lists.
func roomy() api.Image {
	m := two()
	for i := range m.Unwinds {
		m.Unwinds[i].Regs = room(m.Unwinds[i].Regs, api.Saved{Reg: 9, At: 9})
	}
	for i := range m.Points {
		m.Points[i].Scope = room(m.Points[i].Scope, -9)
	}
	for i := range m.Places {
		p := &m.Places[i]
		for k := range p.Vars {
			p.Vars[k].Fields = room(p.Vars[k].Fields, "more")
			for n := range p.Spans[k] {
				p.Spans[k][n].At = room(p.Spans[k][n].At, api.Loc{Kind: 9, N: 9})
			}
			p.Spans[k] = room(p.Spans[k], api.Span{From: 7, To: 6})
		}
		p.Vars, p.Spans = room(p.Vars, api.Var{Name: "more"}), room(p.Spans, nil)
	}
	m.Code, m.Rows, m.Unwinds = room(m.Code, 0xee), room(m.Rows, row(9, 9)), room(m.Unwinds, api.Unwind{From: 9, To: 8})
	m.Places, m.Points = room(m.Places, place("more", 9, 8)), room(m.Points, api.Point{Func: -9})
	return m
}

// deep is a copy of an image, of which each list has within its end what stood behind it.
func deep(m api.Image) api.Image {
	m.Code, m.Rows = full(m.Code), full(m.Rows)
	m.Unwinds = copied(full(m.Unwinds), func(u api.Unwind) api.Unwind {
		u.Regs = full(u.Regs)
		return u
	})
	m.Points = copied(full(m.Points), func(p api.Point) api.Point {
		p.Scope = full(p.Scope)
		return p
	})
	m.Places = copied(full(m.Places), func(p api.Place) api.Place {
		p.Vars = copied(full(p.Vars), func(v api.Var) api.Var {
			v.Fields = full(v.Fields)
			return v
		})
		p.Spans = copied(full(p.Spans), func(l []api.Span) []api.Span {
			return copied(full(l), func(s api.Span) api.Span {
				s.At = full(s.At)
				return s
			})
		})
		return p
	})
	return clone(m)
}

// overwrite fills a list, and the room behind its end.
func overwrite[T any](l []T, x T) {
	for i := range full(l) {
		full(l)[i] = x
	}
}

// turns overwrite one list of an image like want each, with the room behind its end, and lay one like the first there instead.
func turns(want api.Image) (all []func(m *api.Image)) {
	like := func() api.Image { return clone(want) }
	all = append(all,
		func(m *api.Image) { overwrite(m.Code, 0xee); m.Code = like().Code },
		func(m *api.Image) { overwrite(m.Rows, row(9, 9)); m.Rows = like().Rows },
		func(m *api.Image) { overwrite(m.Unwinds, api.Unwind{}); m.Unwinds = like().Unwinds },
		func(m *api.Image) { overwrite(m.Places, api.Place{}); m.Places = like().Places },
		func(m *api.Image) { overwrite(m.Points, api.Point{}); m.Points = like().Points },
	)
	for i := range want.Unwinds {
		all = append(all, func(m *api.Image) {
			overwrite(m.Unwinds[i].Regs, api.Saved{})
			m.Unwinds[i].Regs = like().Unwinds[i].Regs
		})
	}
	for i := range want.Points {
		all = append(all, func(m *api.Image) { overwrite(m.Points[i].Scope, 99); m.Points[i].Scope = like().Points[i].Scope })
	}
	for i, p := range want.Places {
		all = append(all, func(m *api.Image) { overwrite(m.Places[i].Vars, api.Var{}); m.Places[i].Vars = like().Places[i].Vars })
		all = append(all, func(m *api.Image) { overwrite(m.Places[i].Spans, nil); m.Places[i].Spans = like().Places[i].Spans })
		for k := range p.Vars {
			all = append(all, func(m *api.Image) {
				overwrite(m.Places[i].Vars[k].Fields, "spoilt")
				m.Places[i].Vars[k].Fields = like().Places[i].Vars[k].Fields
			})
			for n := range p.Spans[k] {
				all = append(all, func(m *api.Image) {
					overwrite(m.Places[i].Spans[k][n].At, api.Loc{Kind: 99})
					m.Places[i].Spans[k][n].At = like().Places[i].Spans[k][n].At
				})
			}
			all = append(all, func(m *api.Image) {
				overwrite(m.Places[i].Spans[k], api.Span{})
				m.Places[i].Spans[k] = like().Places[i].Spans[k]
			})
		}
	}
	return all
}

// spoil overwrites each list of an image, those within others first.
func spoil(m api.Image) {
	for _, u := range m.Unwinds {
		overwrite(u.Regs, api.Saved{})
	}
	for _, p := range m.Points {
		overwrite(p.Scope, 99)
	}
	for _, p := range m.Places {
		for k, v := range p.Vars {
			overwrite(v.Fields, "spoilt")
			for _, s := range p.Spans[k] {
				overwrite(s.At, api.Loc{Kind: 99})
			}
			overwrite(p.Spans[k], api.Span{})
		}
		overwrite(p.Vars, api.Var{})
		overwrite(p.Spans, nil)
	}
	overwrite(m.Code, 0xee)
	overwrite(m.Rows, row(9, 9))
	overwrite(m.Unwinds, api.Unwind{})
	overwrite(m.Places, api.Place{})
	overwrite(m.Points, api.Point{})
}

func TestWhatIsHandedInIsNotChanged(t *testing.T) {
	m, want := roomy(), deep(roomy())
	wrong := m
	wrong.Rows = full(wrong.Rows)
	short := m
	short.Code = m.Code[:17]
	for name, call := range map[string]func(){
		"Begins":         func() { l, _ := image.Begins(m.Code); overwrite(l, 99) },
		"Begins of none": func() { image.Begins(short.Code) },
		"Right":          func() { image.Right(m) },
		"Right of wrong": func() { image.Right(wrong); image.Right(short) },
		"Write":          func() { b, _ := image.Write(m); overwrite(b, 0xee) },
		"Write of wrong": func() { image.Write(wrong); image.Write(short) },
	} {
		call()
		if got := deep(m); !same(got, want) {
			t.Fatalf("%s changed what was handed in: %v", name, got)
		}
	}
}

func TestBytesThatAreHandedInAreNotChanged(t *testing.T) {
	all := []byte(twos + "\x00\x00\x00\x00\x00\x00")
	kept := slices.Clone(all)
	for size := range len(all) + 1 { // 0 too: an empty list with room behind its end
		m, _ := image.Read(all[:size])
		spoil(m)
		if !slices.Equal(all, kept) {
			t.Fatalf("%d bytes: what was handed in was changed, or its memory was answered: %x", size, all)
		}
	}
}

func TestWhatTheCallerChangesLater(t *testing.T) {
	m := roomy()
	b, _ := image.Write(m)
	l, _ := image.Begins(m.Code)
	got, _ := image.Read(b)
	spoil(m)
	if string(b) != twos || !slices.Equal(l, []int{0, 1, 4, 5, 6, 10, 14, 16, 18}) {
		t.Errorf("an answer was changed: %x, %v", b, l)
	}
	overwrite(b, 0xee)
	if !same(got, two()) {
		t.Errorf("an answer was changed: %v", got)
	}
}

// Each list of an answer can be changed, and what is behind its end, without changing another list of it, nor another answer.
func TestWhatIsReadIsOfItsOwn(t *testing.T) {
	for _, turn := range turns(two()) {
		m, _ := image.Read([]byte(twos))
		other, _ := image.Read([]byte(twos))
		turn(&m)
		if !same(other, two()) {
			t.Errorf("two answers are one: %v", other)
		}
		if !same(m, two()) {
			t.Errorf("two lists of an answer are one: %v", m)
		}
	}
}

func TestAnswersAreNotOne(t *testing.T) {
	first, _ := image.Write(two())
	second, _ := image.Write(two())
	overwrite(second, 0xee)
	l, _ := image.Begins(two().Code)
	m, _ := image.Begins(two().Code)
	overwrite(m, 99)
	if string(first) != twos || l[0] != 0 || l[8] != 18 {
		t.Errorf("two answers are one: %x, %v", first, l)
	}
}
