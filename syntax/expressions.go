package syntax

import "theodolite/api"

const unary = 6 // how much a sign ahead of an expression binds: more than all those between two

// half is an expression that still waits for its last kid: behind a sign, or within brackets.
type half struct {
	exp   api.Exp // of parentheses of no kind: they leave nothing
	binds int     // how much the sign binds
	end   string  // the sign with which the brackets end
}

// expression reads one, as long as it goes on. The halves wait in a list, not in calls, as there is no bound to how many stand one in the other.
func (p *parser) expression() api.Exp {
	var open []half
	for {
		for h, begins := p.begin(); begins; h, begins = p.begin() {
			open = append(open, h)
		}
		x, left := p.end(open, p.leaf())
		n := binds(p.look(0))
		if n == 0 && len(left) == 0 {
			return x
		}
		if n == 0 {
			panic(misfit{}) // a bracket has not ended
		}
		open = append(left, half{exp: api.Exp{Kind: api.ExpBin, Op: p.one(api.TokSign).Text, Kids: []api.Exp{x}}, binds: n})
	}
}

// begin reads what may stand ahead of an expression, and makes another one of it.
func (p *parser) begin() (h half, begins bool) {
	t := p.look(0)
	switch {
	case p.take(sign("-")), p.take(sign("!")):
		return half{exp: api.Exp{Kind: api.ExpUn, Op: t.Text}, binds: unary}, true
	case p.take(sign("(")):
		return half{end: ")"}, true
	case p.hasName(sign("[")):
		p.need(t, sign("["))
		return half{exp: api.Exp{Kind: api.ExpElem, Name: t.Text}, end: "]"}, true
	}
	return half{}, false
}

// leaf reads an expression without kids.
func (p *parser) leaf() api.Exp {
	switch {
	case p.look(0).Kind == api.TokNum:
		return api.Exp{Kind: api.ExpNum, Num: p.number()}
	case p.take(word("true")):
		return api.Exp{Kind: api.ExpBool, Num: 1}
	case p.take(word("false")):
		return api.Exp{Kind: api.ExpBool}
	}
	name := p.name()
	if p.take(sign(".")) {
		return api.Exp{Kind: api.ExpField, Name: name, Field: p.name()}
	}
	return api.Exp{Kind: api.ExpVar, Name: name}
}

// end gives an expression to the innermost half, and what that becomes to the next one, as long as they are whole then. It answers what came of it, and the halves that wait for more.
func (p *parser) end(open []half, x api.Exp) (api.Exp, []half) {
	for len(open) > 0 && p.ends(open[len(open)-1]) {
		x = open[len(open)-1].with(x)
		open = open[:len(open)-1]
	}
	return x, open
}

// ends tells whether a half is whole with the expression ahead of the place, and goes behind the sign that ends it, if it is one of brackets. Of signs that bind alike the one ahead is whole: they go from the left on.
func (p *parser) ends(h half) bool {
	if h.end != "" {
		return p.take(sign(h.end))
	}
	return h.binds >= binds(p.look(0))
}

// with is the whole expression, of which this is the last kid.
func (h half) with(x api.Exp) api.Exp {
	if h.exp.Kind == 0 {
		return x
	}
	h.exp.Kids = append(h.exp.Kids, x)
	return h.exp
}

// binds is how much a token binds, if it may stand between two expressions; else 0.
func binds(t api.Token) int {
	if t.Kind != api.TokSign {
		return 0
	}
	switch t.Text {
	case "||":
		return 1
	case "&&":
		return 2
	case "==", "!=", "<", "<=", ">", ">=":
		return 3
	case "+", "-":
		return 4
	case "*", "/", "%":
		return 5
	}
	return 0
}
