package scopes

import (
	"theodolite/api"
	"theodolite/leb"
	"theodolite/locs"
	"theodolite/octet"
)

// What is put goes behind b, in the room behind its end too: b is no caller's. The calls below tell no error, as the table is right.

func putNumber(b []byte, n int) []byte { return append(b, leb.PutU(nil, uint64(n))...) }

func putText(b []byte, s string) []byte {
	text, _ := octet.PutText(nil, s)
	return append(b, text...)
}

// putPlace lays a place behind one that ends at ahead.
func putPlace(b []byte, p api.Place, ahead int) []byte {
	b = putText(b, p.Name)
	b = putNumber(b, p.From-ahead)
	b = putNumber(b, p.To-p.From)
	b = putNumber(b, len(p.Vars))
	for i, v := range p.Vars {
		spans, _ := locs.Put(nil, p.Spans[i])
		b = append(putVar(b, v), spans...)
	}
	return b
}

func putVar(b []byte, v api.Var) []byte {
	b = append(putText(b, v.Name), v.Type.Kind)
	switch v.Type.Kind {
	case api.TyArray:
		return putNumber(b, v.Type.N)
	case api.TyStruct:
		b = putText(b, v.Type.Name)
		b = putNumber(b, len(v.Fields))
		for _, s := range v.Fields {
			b = putText(b, s)
		}
	}
	return b
}

func putPoint(b []byte, p api.Point) []byte {
	b = putNumber(b, p.Func)
	b = putNumber(b, p.Line)
	b = putNumber(b, len(p.Scope))
	for _, k := range p.Scope {
		b = putNumber(b, k)
	}
	return b
}

// reader goes through bytes from a place on. Once something was wrong it reads nothing more, so that only the end has to ask.
type reader struct {
	b     []byte
	at    int
	wrong bool
}

// take is what a layer below reads there; nothing, if it does not stand there.
func take[T any](r *reader, read func(b []byte, at int) (T, int, api.Errno)) T {
	var none T
	if r.wrong {
		return none
	}
	x, next, e := read(r.b, r.at)
	if e != api.OK {
		r.wrong = true
		return none
	}
	r.at = next
	return x
}

// list is the things themselves, of which a number ahead says how many there are. Right would find too many as well, but behind the reading of all of them.
func list[T any](r *reader, most int, one func() T) []T {
	many := r.number()
	if many > most {
		r.wrong = true
	}
	var l []T
	for len(l) < many && !r.wrong {
		l = append(l, one())
	}
	return l
}

// number is one that a right table may have: what is reckoned of such ones does not go round.
func (r *reader) number() int {
	n := take(r, leb.U)
	if n > mostPlace {
		r.wrong = true
		return 0
	}
	return int(n)
}

func (r *reader) text() string { return take(r, octet.Text) }

// place is one behind one that ends at ahead. It may be not right.
func (r *reader) place(ahead int) api.Place {
	p := api.Place{Name: r.text()}
	p.From = ahead + r.number()
	p.To = p.From + r.number()
	p.Vars = list(r, api.MaxVars, func() api.Var {
		v := r.variable()
		p.Spans = append(p.Spans, take(r, locs.Get))
		return v
	})
	return p
}

func (r *reader) variable() api.Var {
	v := api.Var{Name: r.text()}
	v.Type.Kind = take(r, octet.One)
	switch v.Type.Kind {
	case api.TyArray:
		v.Type.N = r.number()
	case api.TyStruct:
		v.Type.Name = r.text()
		v.Fields = list(r, api.MaxFields, r.text)
	}
	v.Words = words(v)
	return v
}

func (r *reader) point() api.Point {
	p := api.Point{Func: r.number(), Line: r.number()}
	p.Scope = list(r, api.MaxVars, r.number)
	return p
}
