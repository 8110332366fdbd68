package vparse

import (
	"davenport/api"
	"davenport/value"
)

// fault is the panic of a syntax error: the offset of the token that cannot stand there.
type fault struct {
	at int
}

// position is a place in a list of tokens, the last of which is the end.
type position struct {
	tokens []api.Token
	place  int
}

func (p *position) token() api.Token {
	return p.tokens[p.place]
}

func (p *position) pass() {
	p.place++
}

func (p *position) wrong() {
	panic(fault{p.token().At})
}

// is reports whether the token is a keyword or an operator.
func (p *position) is(text string) bool {
	t := p.token()
	return (t.Kind == api.TkWord || t.Kind == api.TkSign) && t.Text == text
}

// passes passes a keyword or an operator, if it is there.
func (p *position) passes(text string) bool {
	if !p.is(text) {
		return false
	}
	p.pass()
	return true
}

func (p *position) expect(text string) {
	if !p.passes(text) {
		p.wrong()
	}
}

// parser parses the program at its position.
type parser struct {
	position
}

// program parses a whole program, or returns the offset of a syntax error and true.
func (p *parser) program() (body []api.Stmt, at int, wrong bool) {
	defer func() {
		if r := recover(); r != nil {
			f, ok := r.(fault)
			if !ok {
				panic(r)
			}
			body, at, wrong = nil, f.at, true
		}
	}()
	body = p.statements()
	if p.token().Kind != api.TkEnd {
		p.wrong()
	}
	return body, 0, false
}

// statements parses as many statements as there are.
func (p *parser) statements() []api.Stmt {
	words := [...]string{"emit", "if", "for"}
	ways := [len(words)]func(*parser) api.Stmt{(*parser).emit, (*parser).branch, (*parser).loop}
	var out []api.Stmt
statements:
	for {
		for i, word := range words {
			if p.passes(word) {
				out = append(out, ways[i](p))
				continue statements
			}
		}
		break statements
	}
	return out
}

func (p *parser) block() []api.Stmt {
	p.expect("{")
	out := p.statements()
	p.expect("}")
	return out
}

func (p *parser) emit() api.Stmt {
	s := api.Stmt{Kind: api.StEmit}
	s.A = p.expr(lowest)
	p.expect(",")
	s.B = p.expr(lowest)
	p.expect(";")
	return s
}

func (p *parser) branch() api.Stmt {
	s := api.Stmt{Kind: api.StIf}
	s.A = p.expr(lowest)
	s.Body = p.block()
	if p.passes("else") {
		s.Else = p.block()
	}
	return s
}

func (p *parser) loop() api.Stmt {
	s := api.Stmt{Kind: api.StFor, Name: p.name()}
	p.expect("in")
	s.A = p.expr(lowest)
	s.Body = p.block()
	return s
}

func (p *parser) name() string {
	t := p.token()
	if t.Kind != api.TkName {
		p.wrong()
	}
	p.pass()
	return t.Text
}

// operator returns the operator that is the token, with a left operand or without, or the zero one.
func (p *parser) operator(left bool) operator {
	for _, o := range operators {
		if p.is(o.text) && (o.left > 0) == left {
			return o
		}
	}
	return operator{}
}

// expr parses an expression of at least a level.
func (p *parser) expr(level int) api.Expr {
	x, at := p.operand(level)
	for {
		o := p.operator(true)
		if o == (operator{}) || o.level < level || at < o.left {
			return x
		}
		p.pass()
		x = api.Expr{Kind: o.kind, Kids: []api.Expr{x, p.expr(o.right)}}
		at = o.level
	}
}

// operand parses a prefix with its operand, or a path, and returns its level, which parentheses raise.
func (p *parser) operand(level int) (api.Expr, int) {
	if o := p.operator(false); o != (operator{}) && o.level >= level {
		p.pass()
		return api.Expr{Kind: o.kind, Kids: []api.Expr{p.expr(o.right)}}, o.level
	}
	x := p.primary()
	for p.passes(".") {
		x = api.Expr{Kind: api.ExPath, Name: p.name(), Kids: []api.Expr{x}}
	}
	return x, pathLevel
}

func (p *parser) primary() api.Expr {
	t := p.token()
	lit := api.Expr{Kind: api.ExLit}
	switch {
	case t.Kind == api.TkInt:
		lit.Value = value.Int(t.N)
	case t.Kind == api.TkText:
		lit.Value = api.Value{Kind: api.VText, S: t.Text}
	case p.is("true") || p.is("false"):
		lit.Value = value.Bool(t.Text == "true")
	case p.is("null"):
		lit.Value = value.Null()
	case t.Kind == api.TkName:
		p.pass()
		return api.Expr{Kind: api.ExName, Name: t.Text}
	case p.passes("["):
		return api.Expr{Kind: api.ExList, Kids: p.elements()}
	case p.passes("("):
		x := p.expr(lowest)
		p.expect(")")
		return x
	default:
		p.wrong()
	}
	p.pass()
	return lit
}

// elements parses the elements of a list up to its end.
func (p *parser) elements() []api.Expr {
	if p.passes("]") {
		return nil
	}
	out := []api.Expr{p.expr(lowest)}
	for p.passes(",") {
		out = append(out, p.expr(lowest))
	}
	p.expect("]")
	return out
}
