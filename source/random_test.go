package source_test

import (
	"math"
	"math/rand"
	"slices"
	"strings"

	"workflow/api"
)

// grower makes random trees that are right.
type grower struct{ random *rand.Rand }

func (g grower) pick(ops ...int) int { return ops[g.random.Intn(len(ops))] }

func (g grower) name() string {
	return []string{"a", "b", "f", "main", "_", "x1", "IF", strings.Repeat("n", 64)}[g.random.Intn(8)]
}

func (g grower) text() string {
	return []string{"", "a", "if", "(", "\"\n\x00\xff", "k ;"}[g.random.Intn(6)]
}

// several makes up to three kids.
func (g grower) several(kid func(int) api.Node, depth int) []api.Node {
	var l []api.Node
	for range g.random.Intn(4) {
		l = append(l, kid(depth))
	}
	return l
}

func (g grower) leaf() api.Node {
	switch g.random.Intn(4) {
	case 0:
		return number(g.pick(0, 1, 42, math.MaxInt))
	case 1:
		return text(g.text())
	case 2:
		return node(g.pick(api.XNull, api.XTrue, api.XFalse))
	}
	return variable(g.name())
}

// expr makes an expression of at most a depth.
func (g grower) expr(depth int) api.Node {
	if depth <= 2 || g.random.Intn(5) == 0 {
		return g.leaf()
	}
	depth--
	switch op := api.XList + g.random.Intn(23); op {
	case api.XList:
		return node(op, g.several(g.expr, depth)...)
	case api.XMap, api.XPair:
		return node(api.XMap, g.several(func(depth int) api.Node { return pair(g.text(), g.expr(depth)) }, depth-1)...)
	case api.XCall, api.XGo:
		return named(op, g.name(), g.several(g.expr, depth)...)
	case api.XAwait, api.XNot, api.XNeg:
		return node(op, g.expr(depth))
	case api.XField:
		return named(op, g.name(), g.expr(depth))
	default:
		return node(op, g.expr(depth), g.expr(depth))
	}
}

func (g grower) block(depth int) api.Node {
	if depth <= 2 {
		return block()
	}
	return block(g.several(g.statement, depth-1)...)
}

// statement makes a statement of at most a depth, which is at least 2.
func (g grower) statement(depth int) api.Node {
	depth--
	switch op := g.pick(api.SLet, api.SSet, api.SIf, api.SWhile, api.SReturn, api.SThrow, api.STry, api.SSaga, api.SUndo, api.SSelect, api.SExpr); op {
	case api.SLet, api.SSet:
		return named(op, g.name(), g.expr(depth))
	case api.SIf:
		return g.condition(depth)
	case api.SWhile:
		return node(op, g.expr(depth), g.block(depth))
	case api.SReturn:
		l := g.several(g.expr, depth)
		return node(op, l[:min(len(l), 1)]...)
	case api.STry:
		return named(op, g.name(), g.block(depth), g.block(depth))
	case api.SSaga:
		return node(op, g.block(depth))
	case api.SUndo:
		return named(op, g.name(), g.several(g.expr, depth)...)
	case api.SSelect:
		return g.choice(depth)
	default:
		return node(op, g.expr(depth))
	}
}

func (g grower) condition(depth int) api.Node {
	n := node(api.SIf, g.expr(depth), g.block(depth))
	switch g.random.Intn(3) {
	case 0:
		n.Kids = append(n.Kids, g.block(depth))
	case 1:
		if depth > 2 {
			n.Kids = append(n.Kids, g.condition(depth-1))
		}
	}
	return n
}

func (g grower) choice(depth int) api.Node {
	n := node(api.SSelect, g.several(func(depth int) api.Node {
		return named(api.SCase, []string{"", g.name()}[g.random.Intn(2)], g.expr(depth), g.block(depth))
	}, depth-1)...)
	if len(n.Kids) == 0 || g.random.Intn(2) == 0 {
		n.Kids = append(n.Kids, node(api.SElse, g.block(depth-1)))
	}
	return n
}

// declaration makes a declaration of at most a depth, which is at least 3.
func (g grower) declaration(depth int) api.Node {
	depth--
	switch op := g.pick(api.DVar, api.DFunc, api.DFunc, api.DSignal, api.DQuery, api.DUpdate, api.DUpdate); op {
	case api.DVar:
		constants := []api.Node{node(api.XNull), node(api.XTrue), node(api.XFalse), number(7), text(g.text()), node(api.XNeg, number(7))}
		return named(op, g.name(), constants[g.random.Intn(6)])
	case api.DFunc:
		params := g.several(func(int) api.Node { return variable(g.name()) }, 1)
		return named(op, g.name(), append(params, g.block(depth))...)
	case api.DUpdate:
		if g.random.Intn(2) == 0 {
			return handler(op, g.name(), g.name(), g.block(depth), g.block(depth))
		}
		fallthrough
	default:
		return handler(op, g.name(), g.name(), g.block(depth))
	}
}

func (g grower) program(depth int) api.Node {
	return node(api.DProgram, g.several(g.declaration, depth-1)...)
}

// any makes an expression or a program.
func (g grower) any(depth int) api.Node {
	if g.random.Intn(2) == 0 {
		return g.expr(depth)
	}
	return g.program(depth)
}

// copied returns a copy of a tree that shares nothing with it. A list without elements becomes what empty is.
func copied(n api.Node, empty []api.Node) api.Node {
	kids := slices.Clone(empty)
	for _, kid := range n.Kids {
		kids = append(kids, copied(kid, empty))
	}
	n.Kids = kids
	return n
}

// each calls a function for each node of a tree.
func each(n *api.Node, f func(*api.Node)) {
	f(n)
	for i := range n.Kids {
		each(&n.Kids[i], f)
	}
}
