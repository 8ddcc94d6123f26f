package syntax_test

import (
	"strconv"
	"strings"

	"theodolite/api"
)

// layout lays programs out as tokens, and notes in them the lines in which it lays their functions and statements.
type layout struct {
	l    []api.Token
	line func() int // of the next token
	more func() int // how many parentheses more to lay
}

// lay is a program as tokens, each in a line of its own, without a parenthesis more than is needed.
func lay(x api.Prog) ([]api.Token, api.Prog) {
	line := 0
	return laid(x, func() int { line++; return line }, func() int { return 0 })
}

func laid(x api.Prog, line, more func() int) ([]api.Token, api.Prog) {
	o := &layout{line: line, more: more}
	for _, s := range x.Structs {
		o.structure(s)
	}
	for i := range x.Funcs {
		o.function(&x.Funcs[i])
	}
	return o.l, x
}

func (o *layout) put(kind uint8, text string, num int64) int {
	line := o.line()
	o.l = append(o.l, api.Token{Kind: kind, Text: text, Num: num, Line: line})
	return line
}

// fixed lays out words and signs, and answers the line of the first one.
func (o *layout) fixed(text string) int {
	first := len(o.l)
	for s := range strings.FieldsSeq(text) {
		kind := api.TokSign
		if s[0] >= 'a' && s[0] <= 'z' {
			kind = api.TokWord
		}
		o.put(kind, s, 0)
	}
	return o.l[first].Line
}

func (o *layout) name(s string) int { return o.put(api.TokName, s, 0) }

func (o *layout) number(n int64) { o.put(api.TokNum, strconv.FormatInt(n, 10), n) }

func (o *layout) structure(x api.Struct) {
	o.fixed("type")
	o.name(x.Name)
	o.fixed("struct {")
	for _, s := range x.Fields {
		o.name(s)
		o.fixed("int ;")
	}
	o.fixed("}")
}

func (o *layout) function(x *api.Decl) {
	x.Line = o.fixed("func")
	o.name(x.Name)
	o.fixed("(")
	for i, p := range x.Params {
		if i > 0 {
			o.fixed(",")
		}
		o.name(p.Name)
		o.kind(p.Type)
	}
	o.fixed(")")
	if x.Result.Kind != api.TyNone {
		o.kind(x.Result)
	}
	o.block(x.Body)
}

func (o *layout) kind(x api.Type) {
	switch x.Kind {
	case api.TyInt:
		o.fixed("int")
	case api.TyBool:
		o.fixed("bool")
	case api.TyArray:
		o.fixed("[")
		o.number(int64(x.N))
		o.fixed("] int")
	case api.TyStruct:
		o.name(x.Name)
	}
}

func (o *layout) block(l []api.Stmt) {
	o.fixed("{")
	for i := range l {
		o.statement(&l[i])
	}
	o.fixed("}")
}

func (o *layout) statement(s *api.Stmt) {
	switch s.Kind {
	case api.StVar:
		s.Line = o.fixed("var")
		o.name(s.Name)
		o.kind(s.Type)
		if len(s.Kids) > 0 {
			o.fixed("=")
			o.exp(s.Kids[0], 0, false)
		}
	case api.StSet:
		s.Line = o.name(s.Name)
		o.fixed("=")
		o.exp(s.Kids[0], 0, false)
	case api.StElem:
		s.Line = o.name(s.Name)
		o.fixed("[")
		o.exp(s.Kids[0], 0, false)
		o.fixed("] =")
		o.exp(s.Kids[1], 0, false)
	case api.StField:
		s.Line = o.name(s.Name)
		o.fixed(".")
		o.name(s.Field)
		o.fixed("=")
		o.exp(s.Kids[0], 0, false)
	case api.StCall:
		o.call(s)
	case api.StIf, api.StFor:
		o.blocks(s)
		return
	case api.StPrint:
		s.Line = o.fixed("print (")
		o.exp(s.Kids[0], 0, false)
		o.fixed(")")
	case api.StInput:
		s.Line = o.name(s.Name)
		o.fixed("= input ( )")
	case api.StReturn:
		s.Line = o.fixed("return")
		if len(s.Kids) > 0 {
			o.exp(s.Kids[0], 0, false)
		}
	}
	o.fixed(";")
}

func (o *layout) call(s *api.Stmt) {
	if s.Name != "" {
		s.Line = o.name(s.Name)
		o.fixed("=")
		o.name(s.Call)
	} else {
		s.Line = o.name(s.Call)
	}
	o.fixed("(")
	for i, x := range s.Kids {
		if i > 0 {
			o.fixed(",")
		}
		o.exp(x, 0, false)
	}
	o.fixed(")")
}

func (o *layout) blocks(s *api.Stmt) {
	s.Line = o.fixed(map[uint8]string{api.StIf: "if", api.StFor: "for"}[s.Kind])
	o.exp(s.Kids[0], 0, false)
	o.block(s.Body)
	if s.Kind == api.StIf && (len(s.Else) > 0 || o.more() > 0) {
		o.fixed("else")
		o.block(s.Else)
	}
}

// bound is how much a sign between two expressions binds, from the loosest on.
func bound(op string) int {
	for i, l := range [][]string{{"||"}, {"&&"}, {"==", "!=", "<", "<=", ">", ">="}, {"+", "-"}, {"*", "/", "%"}} {
		for _, s := range l {
			if s == op {
				return i + 1
			}
		}
	}
	return 0
}

// exp lays an expression out; around it stands what binds so much, and, if it stands on the right side of that, what binds alike needs parentheses too.
func (o *layout) exp(x api.Exp, around int, right bool) {
	n := o.more()
	b := bound(x.Op)
	if x.Kind == api.ExpBin && n == 0 && (b < around || b == around && right) {
		n = 1
	}
	for range n {
		o.fixed("(")
	}
	switch x.Kind {
	case api.ExpNum:
		o.number(x.Num)
	case api.ExpBool:
		o.fixed([]string{"false", "true"}[x.Num])
	case api.ExpVar:
		o.name(x.Name)
	case api.ExpElem:
		o.name(x.Name)
		o.fixed("[")
		o.exp(x.Kids[0], 0, false)
		o.fixed("]")
	case api.ExpField:
		o.name(x.Name)
		o.fixed(".")
		o.name(x.Field)
	case api.ExpUn:
		o.fixed(x.Op)
		o.exp(x.Kids[0], 6, false)
	case api.ExpBin:
		o.exp(x.Kids[0], b, false)
		o.fixed(x.Op)
		o.exp(x.Kids[1], b, true)
	}
	for range n {
		o.fixed(")")
	}
}

// What trees are made of.

func num(n int64) api.Exp { return api.Exp{Kind: api.ExpNum, Num: n} }

func truth(n int64) api.Exp { return api.Exp{Kind: api.ExpBool, Num: n} }

func variable(s string) api.Exp { return api.Exp{Kind: api.ExpVar, Name: s} }

func elem(s string, i api.Exp) api.Exp {
	return api.Exp{Kind: api.ExpElem, Name: s, Kids: []api.Exp{i}}
}

func field(s, f string) api.Exp { return api.Exp{Kind: api.ExpField, Name: s, Field: f} }

func un(op string, x api.Exp) api.Exp {
	return api.Exp{Kind: api.ExpUn, Op: op, Kids: []api.Exp{x}}
}

func bin(x api.Exp, op string, y api.Exp) api.Exp {
	return api.Exp{Kind: api.ExpBin, Op: op, Kids: []api.Exp{x, y}}
}

// function is a program of one function f, without parameters and result.
func function(line int, body ...api.Stmt) api.Prog {
	return api.Prog{Funcs: []api.Decl{{Name: "f", Line: line, Body: body}}}
}
