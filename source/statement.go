package source

import (
	"strings"

	"workflow/api"
)

// program writes declarations, each with a line feed behind it.
func (w *writer) program(n api.Node) {
	for _, kid := range n.Kids {
		w.declaration(kid)
		w.put("\n")
	}
}

func (w *writer) declaration(n api.Node) {
	last := len(n.Kids) - 1
	switch n.Op {
	case api.DVar:
		w.put("var ")
		w.assignment(n)
	case api.DFunc:
		w.put("func ", n.Name)
		w.list("(", n.Kids[:last], ") ")
		w.block(n.Kids[last])
	case api.DSignal:
		w.handler("signal ", n)
	case api.DQuery:
		w.handler("query ", n)
	case api.DUpdate:
		w.handler("update ", n)
	}
}

// handler writes a handler. Its last block is executed; one before it is that of check.
func (w *writer) handler(kind string, n api.Node) {
	w.put("on ", kind, n.Name, "(", n.Text, ") ")
	last := len(n.Kids) - 1
	for _, check := range n.Kids[:last] {
		w.put("check ")
		w.block(check)
		w.put(" ")
	}
	w.block(n.Kids[last])
}

func (w *writer) block(n api.Node) { w.braces(n.Kids, w.statement) }

// braces writes two braces, and between them nodes on lines of their own.
func (w *writer) braces(l []api.Node, write func(api.Node)) {
	w.put("{\n")
	w.indent += 2
	for _, n := range l {
		w.margin()
		write(n)
		w.put("\n")
	}
	w.indent -= 2
	w.margin()
	w.put("}")
}

// margin writes the blanks at the beginning of a line.
func (w *writer) margin() { w.put(strings.Repeat(" ", w.indent)) }

func (w *writer) statement(n api.Node) {
	switch n.Op {
	case api.SLet:
		w.put("let ")
		w.assignment(n)
	case api.SSet:
		w.assignment(n)
	case api.SIf:
		w.condition(n)
	case api.SWhile:
		w.guarded("while ", n)
	case api.SReturn:
		w.ended("return", n)
	case api.SThrow:
		w.ended("throw", n)
	case api.STry:
		w.put("try ")
		w.block(n.Kids[0])
		w.put(" catch ", n.Name, " ")
		w.block(n.Kids[1])
	case api.SSaga:
		w.put("saga ")
		w.block(n.Kids[0])
	case api.SUndo:
		w.put("undo ")
		w.call(n)
		w.put(";")
	case api.SSelect:
		w.put("select ")
		w.braces(n.Kids, w.branch)
	case api.SExpr:
		w.expr(n.Kids[0])
		w.put(";")
	}
}

// assignment writes a variable and what it gets.
func (w *writer) assignment(n api.Node) {
	w.put(n.Name, " = ")
	w.expr(n.Kids[0])
	w.put(";")
}

// ended writes a keyword, and behind it an expression if the statement has one.
func (w *writer) ended(keyword string, n api.Node) {
	w.put(keyword)
	for _, kid := range n.Kids {
		w.put(" ")
		w.expr(kid)
	}
	w.put(";")
}

// guarded writes an expression with what stands before it, and the block behind it.
func (w *writer) guarded(before string, n api.Node) {
	w.put(before)
	w.expr(n.Kids[0])
	w.put(" ")
	w.block(n.Kids[1])
}

// condition writes an if statement.
func (w *writer) condition(n api.Node) {
	w.guarded("if ", n)
	for _, other := range n.Kids[2:] {
		w.put(" else ")
		if other.Op == api.SIf {
			w.condition(other)
		} else {
			w.block(other)
		}
	}
}

// branch writes a case or the else branch of a select statement.
func (w *writer) branch(n api.Node) {
	switch {
	case n.Op == api.SElse:
		w.put("else ")
		w.block(n.Kids[0])
	case n.Name == "":
		w.guarded("case ", n)
	default:
		w.guarded("case "+n.Name+" = ", n)
	}
}
