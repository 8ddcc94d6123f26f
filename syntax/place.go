package syntax

import "theodolite/api"

// misfit is what is thrown where a token fits nowhere.
type misfit struct{}

// place is where in the tokens the parser is. It goes behind a token only if that one fits there, so that all those ahead of it are the beginning of some program.
type place struct {
	l  []api.Token
	at int
}

func sign(s string) api.Token { return api.Token{Kind: api.TokSign, Text: s} }

func word(s string) api.Token { return api.Token{Kind: api.TokWord, Text: s} }

// same tells whether two tokens that are no numbers count as one.
func same(a, b api.Token) bool { return a.Kind == b.Kind && a.Text == b.Text }

// look is the token that stands so many behind the place; an empty one, which fits nowhere, if that is behind the end.
func (p *place) look(ahead int) api.Token {
	if ahead >= len(p.l)-p.at {
		return api.Token{}
	}
	return p.l[p.at+ahead]
}

// has tells whether a token stands there.
func (p *place) has(t api.Token) bool { return same(p.look(0), t) }

// hasName tells whether a name stands there, with a token behind it.
func (p *place) hasName(behind api.Token) bool {
	return p.look(0).Kind == api.TokName && same(p.look(1), behind)
}

// take goes behind a token, if it stands there.
func (p *place) take(t api.Token) bool {
	stands := p.has(t)
	if stands {
		p.at++
	}
	return stands
}

// need goes behind tokens that have to stand there.
func (p *place) need(all ...api.Token) {
	for _, t := range all {
		if !p.take(t) {
			panic(misfit{})
		}
	}
}

// one goes behind a token of a kind, which has to stand there.
func (p *place) one(kind uint8) api.Token {
	t := p.look(0)
	if t.Kind != kind {
		panic(misfit{})
	}
	p.at++
	return t
}

func (p *place) name() string { return p.one(api.TokName).Text }

func (p *place) number() int64 { return p.one(api.TokNum).Num }
