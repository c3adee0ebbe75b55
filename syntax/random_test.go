package syntax_test

import (
	"math/rand"
	"strconv"
	"strings"

	"workflow/api"
	"workflow/token"
)

// writer writes trees as texts of the grammar, with parentheses where they are needed, and elsewhere now and then.
type writer struct {
	random *rand.Rand // nil for no other parentheses
}

// The least level that an operand must have to stand without parentheses, by the operator's Op.
var levels = map[int][3]int{
	api.XOr: {1, 1, 2}, api.XAnd: {2, 2, 3}, api.XNot: {3, 3}, api.XLt: {4, 5, 5}, api.XLe: {4, 5, 5}, api.XGt: {4, 5, 5}, api.XGe: {4, 5, 5}, api.XEq: {4, 5, 5}, api.XNe: {4, 5, 5},
	api.XAdd: {5, 5, 6}, api.XSub: {5, 5, 6}, api.XMul: {6, 6, 7}, api.XDiv: {6, 6, 7}, api.XMod: {6, 6, 7}, api.XNeg: {7, 7}, api.XAwait: {7, 7}, api.XGo: {7}, api.XIndex: {8, 8}, api.XField: {8, 8},
}

var wordsByOp = map[int]string{
	api.XMul: "*", api.XDiv: "/", api.XMod: "%", api.XAdd: "+", api.XSub: "-", api.XLt: "<", api.XLe: "<=", api.XGt: ">", api.XGe: ">=", api.XEq: "==", api.XNe: "!=", api.XAnd: "and", api.XOr: "or",
	api.XNot: "not", api.XNeg: "-", api.XAwait: "await", api.XNull: "null", api.XTrue: "true", api.XFalse: "false",
	api.SWhile: "while", api.SReturn: "return", api.SThrow: "throw", api.SSaga: "saga", api.SElse: "else", api.DSignal: "signal", api.DQuery: "query", api.DUpdate: "update",
}

// expr writes an expression that has at least a level.
func (w writer) expr(n api.Node, least int) string {
	s := w.open(n)
	level, ok := levels[n.Op]
	if ok && level[0] < least || w.random != nil && w.random.Intn(8) == 0 {
		return "(" + s + ")"
	}
	return s
}

// open writes an expression without parentheses around it.
func (w writer) open(n api.Node) string {
	level := levels[n.Op]
	switch n.Op {
	case api.XInt:
		return strconv.Itoa(n.Int)
	case api.XText:
		return token.Quote(n.Text)
	case api.XName:
		return n.Name
	case api.XList:
		return "[" + w.list(n.Kids) + "]"
	case api.XMap:
		return "{" + w.list(n.Kids) + "}"
	case api.XPair:
		return token.Quote(n.Text) + ": " + w.expr(n.Kids[0], 1)
	case api.XCall:
		return n.Name + "(" + w.list(n.Kids) + ")"
	case api.XGo:
		return "go " + n.Name + "(" + w.list(n.Kids) + ")"
	case api.XField:
		return w.expr(n.Kids[0], level[1]) + "." + n.Name
	case api.XIndex:
		return w.expr(n.Kids[0], level[1]) + "[" + w.expr(n.Kids[1], 1) + "]"
	}
	switch len(n.Kids) {
	case 0:
		return wordsByOp[n.Op]
	case 1:
		return wordsByOp[n.Op] + " " + w.expr(n.Kids[0], level[1])
	}
	return w.expr(n.Kids[0], level[1]) + " " + wordsByOp[n.Op] + " " + w.expr(n.Kids[1], level[2])
}

func (w writer) list(kids []api.Node) string {
	var l []string
	for _, kid := range kids {
		if kid.Op == api.XPair {
			l = append(l, w.open(kid))
		} else {
			l = append(l, w.expr(kid, 1))
		}
	}
	return strings.Join(l, ", ")
}

// tree writes any tree but those of expressions.
func (w writer) tree(n api.Node) string {
	var l []string
	for _, kid := range n.Kids {
		if kid.Op <= api.XField {
			l = append(l, w.expr(kid, 1))
		} else {
			l = append(l, w.tree(kid))
		}
	}
	all, last := strings.Join(l, " "), ""
	if len(l) > 0 {
		last = l[len(l)-1]
	}
	switch n.Op {
	case api.SLet:
		return "let " + n.Name + " = " + all + ";"
	case api.SSet:
		return n.Name + " = " + all + ";"
	case api.SIf:
		return "if " + strings.Join(l[:2], " ") + strings.Join(append([]string{""}, l[2:]...), " else ")
	case api.STry:
		return "try " + l[0] + " catch " + n.Name + " " + l[1]
	case api.SUndo:
		return "undo " + n.Name + "(" + strings.Join(l, ", ") + ");"
	case api.SSelect:
		return "select { " + all + " }"
	case api.SCase:
		if n.Name != "" {
			return "case " + n.Name + " = " + all
		}
		return "case " + all
	case api.SExpr:
		return all + ";"
	case api.SReturn, api.SThrow:
		return wordsByOp[n.Op] + " " + all + ";"
	case api.SBlock:
		return "{ " + all + " }"
	case api.DProgram:
		return all
	case api.DVar:
		// A constant has no parentheses.
		return "var " + n.Name + " = " + writer{}.expr(n.Kids[0], 1) + ";"
	case api.DFunc:
		return "func " + n.Name + "(" + writer{}.list(n.Kids[:len(l)-1]) + ") " + last
	case api.DSignal, api.DQuery, api.DUpdate:
		if len(l) == 2 {
			last = "check " + all
		}
		return "on " + wordsByOp[n.Op] + " " + n.Name + "(" + n.Text + ") " + last
	}
	return wordsByOp[n.Op] + " " + all
}

// text writes an expression or a program.
func (w writer) text(n api.Node) string {
	if n.Op == api.DProgram {
		return w.tree(n)
	}
	return w.expr(n, 1)
}

// grower makes random trees.
type grower struct{ random *rand.Rand }

func (g grower) pick(ops ...int) int { return ops[g.random.Intn(len(ops))] }

func (g grower) name() string {
	return []string{"a", "b", "f", "main", "_", "x1", "IF", strings.Repeat("n", 64)}[g.random.Intn(8)]
}

func (g grower) string() string {
	return []string{"", "a", "if", "(", "\"\n\x00\xff", "k"}[g.random.Intn(6)]
}

func (g grower) exprs(depth int) []api.Node {
	var l []api.Node
	for range g.random.Intn(4) {
		l = append(l, g.expr(depth))
	}
	return l
}

// expr makes an expression of at most a depth.
func (g grower) expr(depth int) api.Node {
	if depth <= 2 || g.random.Intn(4) == 0 {
		return g.leaf()
	}
	depth--
	switch op := 7 + g.random.Intn(23); op {
	case api.XList:
		return node(op, g.exprs(depth)...)
	case api.XMap, api.XPair:
		n := node(api.XMap)
		for range g.random.Intn(3) {
			n.Kids = append(n.Kids, pair(g.string(), g.expr(depth-1)))
		}
		return n
	case api.XCall, api.XGo:
		return named(op, g.name(), g.exprs(depth)...)
	case api.XAwait, api.XNot, api.XNeg:
		return node(op, g.expr(depth))
	case api.XField:
		return named(op, g.name(), g.expr(depth))
	default:
		return node(op, g.expr(depth), g.expr(depth))
	}
}

func (g grower) leaf() api.Node {
	switch op := 1 + g.random.Intn(6); op {
	case api.XInt:
		return number([]int{0, 1, 42, 1<<63 - 1}[g.random.Intn(4)])
	case api.XText:
		return text(g.string())
	case api.XName:
		return variable(g.name())
	default:
		return node(op)
	}
}

func (g grower) block(depth int) api.Node {
	n := block()
	if depth > 2 {
		for range g.random.Intn(4) {
			n.Kids = append(n.Kids, g.statement(depth-1))
		}
	}
	return n
}

// statement makes a statement of at most a depth, which is at least 2.
func (g grower) statement(depth int) api.Node {
	depth--
	switch op := g.pick(api.SLet, api.SSet, api.SIf, api.SWhile, api.SReturn, api.SThrow, api.STry, api.SSaga, api.SUndo, api.SSelect, api.SExpr); op {
	case api.SLet, api.SSet:
		return named(op, g.name(), g.expr(depth))
	case api.SIf:
		return g.condition(depth + 1)
	case api.SWhile:
		return node(op, g.expr(depth), g.block(depth))
	case api.STry:
		return named(op, g.name(), g.block(depth), g.block(depth))
	case api.SSaga:
		return node(op, g.block(depth))
	case api.SUndo:
		return named(op, g.name(), g.exprs(depth)...)
	case api.SSelect:
		return g.choice(depth)
	case api.SReturn:
		if g.random.Intn(3) == 0 {
			return node(op)
		}
		return node(op, g.expr(depth))
	default:
		return node(op, g.expr(depth))
	}
}

func (g grower) condition(depth int) api.Node {
	depth--
	n := node(api.SIf, g.expr(depth), g.block(depth))
	switch g.random.Intn(3) {
	case 0:
		n.Kids = append(n.Kids, g.block(depth))
	case 1:
		if depth > 2 {
			n.Kids = append(n.Kids, g.condition(depth))
		}
	}
	return n
}

func (g grower) choice(depth int) api.Node {
	n := node(api.SSelect)
	for range g.random.Intn(4) {
		n.Kids = append(n.Kids, named(api.SCase, []string{"", g.name()}[g.random.Intn(2)], g.expr(depth-1), g.block(depth-1)))
	}
	if len(n.Kids) == 0 || g.random.Intn(2) == 0 {
		n.Kids = append(n.Kids, node(api.SElse, g.block(depth-1)))
	}
	return n
}

func (g grower) declaration(depth int) api.Node {
	depth--
	switch op := g.pick(api.DVar, api.DFunc, api.DFunc, api.DSignal, api.DQuery, api.DUpdate); op {
	case api.DVar:
		constants := []api.Node{node(api.XNull), node(api.XTrue), node(api.XFalse), number(7), text(g.string()), node(api.XNeg, number(7))}
		return named(op, g.name(), constants[g.random.Intn(6)])
	case api.DFunc:
		return named(op, g.name(), append(repeated(variable(g.name()), g.random.Intn(4)), g.block(depth))...)
	case api.DUpdate:
		if g.random.Intn(2) == 0 {
			return handler(op, g.name(), g.name(), g.block(depth), g.block(depth))
		}
		return handler(op, g.name(), g.name(), g.block(depth))
	default:
		return handler(op, g.name(), g.name(), g.block(depth))
	}
}

func (g grower) program(depth int) api.Node {
	n := node(api.DProgram)
	for range g.random.Intn(4) {
		n.Kids = append(n.Kids, g.declaration(depth-1))
	}
	return n
}

// any makes an expression or a program, of the rule that it returns.
func (g grower) any(depth int) (api.Node, string) {
	if g.random.Intn(2) == 0 {
		return g.expr(depth), "expr"
	}
	return g.program(depth), "program"
}
