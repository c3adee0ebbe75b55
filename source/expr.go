package source

import (
	"strconv"

	"workflow/api"
	"workflow/token"
)

// The levels of expressions, from the weakest operators to what never needs parentheses.
const (
	levelOr = iota + 1
	levelAnd
	levelNot
	levelCompare
	levelSum
	levelProduct
	levelUnary
	levelPostfix
)

// levelOf returns the level of an expression with an Op.
func levelOf(op int) int {
	switch op {
	case api.XOr:
		return levelOr
	case api.XAnd:
		return levelAnd
	case api.XNot:
		return levelNot
	case api.XLt, api.XLe, api.XGt, api.XGe, api.XEq, api.XNe:
		return levelCompare
	case api.XAdd, api.XSub:
		return levelSum
	case api.XMul, api.XDiv, api.XMod:
		return levelProduct
	case api.XNeg, api.XAwait, api.XGo:
		return levelUnary
	}
	return levelPostfix
}

// operand writes an expression where the grammar requires a level.
func (w *writer) operand(n api.Node, least int) {
	if levelOf(n.Op) >= least {
		w.expr(n)
		return
	}
	w.put("(")
	w.expr(n)
	w.put(")")
}

// expr writes an expression, or a pair of a map, without parentheses around it.
func (w *writer) expr(n api.Node) {
	switch n.Op {
	case api.XInt:
		w.put(strconv.Itoa(n.Int))
	case api.XText:
		w.put(token.Quote(n.Text))
	case api.XName:
		w.put(n.Name)
	case api.XList:
		w.list("[", n.Kids, "]")
	case api.XMap:
		w.list("{", n.Kids, "}")
	case api.XPair:
		w.put(token.Quote(n.Text), ": ")
		w.expr(n.Kids[0])
	case api.XCall:
		w.call(n)
	case api.XGo:
		w.put("go ")
		w.call(n)
	case api.XIndex:
		w.operand(n.Kids[0], levelPostfix)
		w.put("[")
		w.expr(n.Kids[1])
		w.put("]")
	case api.XField:
		w.operand(n.Kids[0], levelPostfix)
		w.put(".", n.Name)
	default:
		w.operation(n)
	}
}

// list writes expressions that are separated by commas, and the signs around them.
func (w *writer) list(opening string, kids []api.Node, closing string) {
	w.put(opening)
	for i, kid := range kids {
		if i > 0 {
			w.put(", ")
		}
		w.expr(kid)
	}
	w.put(closing)
}

// call writes the name of a function and its arguments.
func (w *writer) call(n api.Node) {
	w.put(n.Name)
	w.list("(", n.Kids, ")")
}

// operation writes a literal that is a keyword, or an operator with its one or two operands.
func (w *writer) operation(n api.Node) {
	word, level := spelling(n.Op), levelOf(n.Op)
	switch len(n.Kids) {
	case 0:
		w.put(word)
	case 1:
		w.put(word)
		w.operand(n.Kids[0], level)
	default:
		left := level
		if level == levelCompare {
			left++ // comparisons do not chain
		}
		w.operand(n.Kids[0], left)
		w.put(" ", word, " ")
		w.operand(n.Kids[1], level+1)
	}
}

// spelling returns how a literal or an operator is written, with the blank that separates it from its only operand.
func spelling(op int) string {
	switch op {
	case api.XNull:
		return "null"
	case api.XTrue:
		return "true"
	case api.XFalse:
		return "false"
	case api.XAwait:
		return "await "
	case api.XNot:
		return "not "
	case api.XNeg, api.XSub:
		return "-"
	case api.XMul:
		return "*"
	case api.XDiv:
		return "/"
	case api.XMod:
		return "%"
	case api.XAdd:
		return "+"
	case api.XLt:
		return "<"
	case api.XLe:
		return "<="
	case api.XGt:
		return ">"
	case api.XGe:
		return ">="
	case api.XEq:
		return "=="
	case api.XNe:
		return "!="
	case api.XAnd:
		return "and"
	}
	return "or"
}
