package syntax

import "workflow/api"

func (p *parser) block() api.Node {
	p.need("{")
	n := node(api.SBlock)
	for !p.accept("}") {
		n.Kids = append(n.Kids, p.statement())
	}
	return n
}

func (p *parser) statement() api.Node {
	switch {
	case p.accept("let"):
		return p.assignment(api.SLet)
	case p.atAssignment():
		return p.assignment(api.SSet)
	case p.accept("if"):
		return p.condition()
	case p.accept("while"):
		return node(api.SWhile, p.expr(), p.block())
	case p.accept("return"):
		return p.result()
	case p.accept("throw"):
		return p.ended(api.SThrow)
	case p.accept("try"):
		return p.attempt()
	case p.accept("saga"):
		return node(api.SSaga, p.block())
	case p.accept("undo"):
		n := p.call(api.SUndo)
		p.need(";")
		return n
	case p.accept("select"):
		return p.choice()
	}
	return p.ended(api.SExpr)
}

// atAssignment reports whether a name and = come next. No expression begins like this.
func (p *parser) atAssignment() bool {
	return p.next().Kind == api.TokName && is(p.tokens[p.at+1], "=")
}

// assignment reads a statement that begins with the name of a variable.
func (p *parser) assignment(op int) api.Node {
	n := api.Node{Op: op, Name: p.name()}
	p.need("=")
	n.Kids = []api.Node{p.expr()}
	p.need(";")
	return n
}

// ended reads an expression and the semicolon behind it.
func (p *parser) ended(op int) api.Node {
	n := node(op, p.expr())
	p.need(";")
	return n
}

// result reads a return statement behind its keyword.
func (p *parser) result() api.Node {
	if p.accept(";") {
		return node(api.SReturn)
	}
	return p.ended(api.SReturn)
}

// condition reads an if statement behind its keyword.
func (p *parser) condition() api.Node {
	n := node(api.SIf, p.expr(), p.block())
	if !p.accept("else") {
		return n
	}
	if p.accept("if") {
		n.Kids = append(n.Kids, p.condition())
	} else {
		n.Kids = append(n.Kids, p.block())
	}
	return n
}

// attempt reads a try statement behind its keyword.
func (p *parser) attempt() api.Node {
	first := p.block()
	p.need("catch")
	return api.Node{Op: api.STry, Name: p.name(), Kids: []api.Node{first, p.block()}}
}

// choice reads a select statement behind its keyword.
func (p *parser) choice() api.Node {
	p.need("{")
	n := node(api.SSelect)
	for len(n.Kids) < api.MaxCases && p.accept("case") {
		n.Kids = append(n.Kids, p.branch())
	}
	if p.accept("else") {
		n.Kids = append(n.Kids, node(api.SElse, p.block()))
	}
	if len(n.Kids) == 0 {
		panic(p.unexpected())
	}
	p.need("}")
	return n
}

// branch reads a case of a select statement behind its keyword.
func (p *parser) branch() api.Node {
	n := node(api.SCase)
	if p.atAssignment() {
		n.Name = p.name()
		p.need("=")
	}
	n.Kids = []api.Node{p.expr(), p.block()}
	return n
}
