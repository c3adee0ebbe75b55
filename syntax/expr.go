package syntax

import "workflow/api"

// The levels of the grammar, from the weakest operators to the strongest.
const (
	levelOr = iota + 1
	levelAnd
	levelNot
	levelCompare
	levelSum
	levelProduct
)

func (p *parser) expr() api.Node { return p.operation(levelOr) }

// operation reads operands and the operators between them, which are of the level least or above. It needs no
// call for each level, because the calls would add up in parentheses that are nested very deep.
func (p *parser) operation(least int) api.Node {
	n, most := p.operand(least)
	for {
		op, level := operator(p.next())
		if level < least || level > most {
			return n
		}
		p.at++
		n = node(op, n, p.operation(level+1))
		most = level
		if level == levelCompare {
			most-- // comparisons do not chain
		}
	}
}

// operand reads what begins an operation, and returns the highest level that an operator behind it may have.
func (p *parser) operand(least int) (api.Node, int) {
	if least <= levelNot && p.accept("not") {
		return node(api.XNot, p.operation(levelNot)), levelAnd
	}
	return p.unary(), levelProduct
}

// operator returns the Op and the level of an operator with two operands; the level of other tokens is 0.
func operator(t api.Token) (op, level int) {
	if t.Kind != api.TokSign && t.Kind != api.TokKeyword {
		return 0, 0
	}
	switch t.Text {
	case "*":
		return api.XMul, levelProduct
	case "/":
		return api.XDiv, levelProduct
	case "%":
		return api.XMod, levelProduct
	case "+":
		return api.XAdd, levelSum
	case "-":
		return api.XSub, levelSum
	case "<":
		return api.XLt, levelCompare
	case "<=":
		return api.XLe, levelCompare
	case ">":
		return api.XGt, levelCompare
	case ">=":
		return api.XGe, levelCompare
	case "==":
		return api.XEq, levelCompare
	case "!=":
		return api.XNe, levelCompare
	case "and":
		return api.XAnd, levelAnd
	case "or":
		return api.XOr, levelOr
	}
	return 0, 0
}

func (p *parser) unary() api.Node {
	switch {
	case p.accept("-"):
		return node(api.XNeg, p.unary())
	case p.accept("await"):
		return node(api.XAwait, p.unary())
	case p.accept("go"):
		return p.call(api.XGo)
	}
	return p.postfix()
}

// call reads the name of a function and its arguments.
func (p *parser) call(op int) api.Node {
	n := api.Node{Op: op, Name: p.name()}
	p.need("(")
	n.Kids = p.list(")", p.expr)
	return n
}

func (p *parser) postfix() api.Node {
	n := p.primary()
	for {
		switch {
		case p.accept("."):
			n = api.Node{Op: api.XField, Name: p.name(), Kids: []api.Node{n}}
		case p.accept("["):
			n = node(api.XIndex, n, p.expr())
			p.need("]")
		default:
			return n
		}
	}
}

func (p *parser) primary() api.Node {
	if n, ok := p.literal(); ok {
		return n
	}
	switch {
	case p.accept("["):
		return node(api.XList, p.list("]", p.expr)...)
	case p.accept("{"):
		return node(api.XMap, p.list("}", p.pair)...)
	case p.accept("("):
		n := p.expr()
		p.need(")")
		return n
	}
	name := p.name()
	if p.accept("(") {
		return api.Node{Op: api.XCall, Name: name, Kids: p.list(")", p.expr)}
	}
	return api.Node{Op: api.XName, Name: name}
}

func (p *parser) pair() api.Node {
	n := api.Node{Op: api.XPair, Text: p.take(api.TokText).Text}
	p.need(":")
	n.Kids = []api.Node{p.expr()}
	return n
}

// literal reads an integer, a string, true, false or null, if one comes next.
func (p *parser) literal() (api.Node, bool) {
	t := p.next()
	var n api.Node
	switch {
	case t.Kind == api.TokInt:
		n.Op, n.Int = api.XInt, t.Int
	case t.Kind == api.TokText:
		n.Op, n.Text = api.XText, t.Text
	case is(t, "true"):
		n.Op = api.XTrue
	case is(t, "false"):
		n.Op = api.XFalse
	case is(t, "null"):
		n.Op = api.XNull
	default:
		return api.Node{}, false
	}
	p.at++
	return n, true
}
