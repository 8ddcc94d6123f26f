package syntax

import "theodolite/api"

// level is a list of statements that still goes on.
type level struct {
	list   []api.Stmt
	isElse bool // of an if the second one
}

// block reads a list of statements. The lists that go on wait in a list, not in calls, as there is no bound to how deep one stands in another.
func (p *parser) block() []api.Stmt {
	p.need(sign("{"))
	open := []level{{}}
	for len(open) > 1 || !p.has(sign("}")) {
		if p.take(sign("}")) {
			open = p.close(open)
		} else {
			open = p.add(open)
		}
	}
	p.need(sign("}"))
	return open[0].list
}

// add reads a statement of the innermost list; of an if or a for as far as into its own list.
func (p *parser) add(open []level) []level {
	s := p.statement()
	inner := &open[len(open)-1]
	inner.list = append(inner.list, s)
	if s.Kind != api.StIf && s.Kind != api.StFor {
		return open
	}
	p.need(sign("{"))
	return append(open, level{})
}

// close lays the innermost list, which has ended, into its statement: the last one of the list around it. If an else stands behind it that one's list is open then.
func (p *parser) close(open []level) []level {
	done, open := open[len(open)-1], open[:len(open)-1]
	around := open[len(open)-1].list
	s := &around[len(around)-1]
	if done.isElse {
		s.Else = done.list
		return open
	}
	s.Body = done.list
	if s.Kind != api.StIf || !p.take(word("else")) {
		return open
	}
	p.need(sign("{"))
	return append(open, level{isElse: true})
}

// statement reads one; of an if or a for what stands ahead of its list.
func (p *parser) statement() api.Stmt {
	s := api.Stmt{Line: p.look(0).Line}
	switch {
	case p.take(word("if")):
		s.Kind = api.StIf
		p.value(&s)
		return s
	case p.take(word("for")):
		s.Kind = api.StFor
		p.value(&s)
		return s
	case p.take(word("var")):
		p.variable(&s)
	case p.take(word("print")):
		s.Kind = api.StPrint
		p.need(sign("("))
		p.value(&s)
		p.need(sign(")"))
	case p.take(word("return")):
		s.Kind = api.StReturn
		if !p.has(sign(";")) {
			p.value(&s)
		}
	default:
		p.named(&s)
	}
	p.need(sign(";"))
	return s
}

// value reads an expression that is one more of a statement's.
func (p *parser) value(s *api.Stmt) { s.Kids = append(s.Kids, p.expression()) }

func (p *parser) variable(s *api.Stmt) {
	s.Kind = api.StVar
	s.Name = p.name()
	s.Type = p.kind()
	if p.take(sign("=")) {
		p.value(s)
	}
}

// named reads a statement that begins with a name.
func (p *parser) named(s *api.Stmt) {
	if p.hasName(sign("(")) {
		p.call(s)
		return
	}
	s.Name = p.name()
	switch {
	case p.take(sign("[")):
		s.Kind = api.StElem
		p.value(s)
		p.need(sign("]"), sign("="))
		p.value(s)
	case p.take(sign(".")):
		s.Kind = api.StField
		s.Field = p.name()
		p.need(sign("="))
		p.value(s)
	default:
		p.need(sign("="))
		p.set(s)
	}
}

// set reads what a variable is set to: only there inputs and calls may stand, and nothing but them.
func (p *parser) set(s *api.Stmt) {
	switch {
	case p.take(word("input")):
		s.Kind = api.StInput
		p.need(sign("("), sign(")"))
	case p.hasName(sign("(")):
		p.call(s)
	default:
		s.Kind = api.StSet
		p.value(s)
	}
}

func (p *parser) call(s *api.Stmt) {
	s.Kind = api.StCall
	s.Call = p.name()
	p.need(sign("("))
	p.listed(func() { p.value(s) })
}
