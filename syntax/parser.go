package syntax

import (
	"workflow/api"
	"workflow/token"
)

// parser reads tokens from left to right. It goes on only where the grammar has a token at that place,
// so the first token that it cannot read is the first one with which no text of the grammar goes on.
type parser struct {
	tokens []api.Token // the last one is of the kind TokEnd
	at     int         // the index of the next token
}

// open returns a parser of the tokens of a text, or panics with their error.
func open(src string) *parser {
	tokens, at, e := token.Scan(src)
	if e != api.OK {
		panic(fault{at, e})
	}
	return &parser{tokens: tokens}
}

// next returns the next token and leaves it to be read.
func (p *parser) next() api.Token { return p.tokens[p.at] }

// unexpected returns the fault that the next token is.
func (p *parser) unexpected() fault { return fault{p.next().At, api.ErrSyntax} }

// take reads a token, which must be of a kind.
func (p *parser) take(kind int) api.Token {
	t := p.next()
	if t.Kind != kind {
		panic(p.unexpected())
	}
	p.at++
	return t
}

func (p *parser) name() string { return p.take(api.TokName).Text }

// is reports whether a token is a keyword or a sign; a string literal may have the same Text.
func is(t api.Token, text string) bool {
	return t.Text == text && (t.Kind == api.TokKeyword || t.Kind == api.TokSign)
}

// accept reads a keyword or a sign, if it is the next token.
func (p *parser) accept(text string) bool {
	if !is(p.next(), text) {
		return false
	}
	p.at++
	return true
}

// need reads a keyword or a sign, which must be the next token.
func (p *parser) need(text string) {
	if !p.accept(text) {
		panic(p.unexpected())
	}
}

// node returns a node that uses no field but Kids.
func node(op int, kids ...api.Node) api.Node { return api.Node{Op: op, Kids: kids} }

// list reads elements that are separated by commas, and the sign behind them.
func (p *parser) list(closing string, element func() api.Node) []api.Node {
	var l []api.Node
	for !p.accept(closing) {
		if len(l) > 0 {
			p.need(",")
		}
		l = append(l, element())
	}
	return l
}

func (p *parser) program() api.Node {
	n := node(api.DProgram)
	for p.next().Kind != api.TokEnd {
		n.Kids = append(n.Kids, p.declaration())
	}
	return n
}

func (p *parser) declaration() api.Node {
	switch {
	case p.accept("var"):
		return p.global()
	case p.accept("func"):
		return p.function()
	}
	p.need("on")
	return p.handler()
}

// global reads a global variable behind its keyword.
func (p *parser) global() api.Node {
	n := api.Node{Op: api.DVar, Name: p.name()}
	p.need("=")
	n.Kids = []api.Node{p.constant()}
	p.need(";")
	return n
}

func (p *parser) constant() api.Node {
	if p.accept("-") {
		return node(api.XNeg, api.Node{Op: api.XInt, Int: p.take(api.TokInt).Int})
	}
	n, ok := p.literal()
	if !ok {
		panic(p.unexpected())
	}
	return n
}

// function reads a function behind its keyword.
func (p *parser) function() api.Node {
	n := api.Node{Op: api.DFunc, Name: p.name()}
	p.need("(")
	n.Kids = append(p.list(")", p.parameter), p.block())
	return n
}

func (p *parser) parameter() api.Node { return api.Node{Op: api.XName, Name: p.name()} }

// handler reads a handler behind its first keyword.
func (p *parser) handler() api.Node {
	n := node(p.handlerOp())
	n.Name = p.name()
	p.need("(")
	n.Text = p.name()
	p.need(")")
	if n.Op == api.DUpdate && p.accept("check") {
		n.Kids = append(n.Kids, p.block())
	}
	n.Kids = append(n.Kids, p.block())
	return n
}

func (p *parser) handlerOp() int {
	switch {
	case p.accept("signal"):
		return api.DSignal
	case p.accept("query"):
		return api.DQuery
	}
	p.need("update")
	return api.DUpdate
}
