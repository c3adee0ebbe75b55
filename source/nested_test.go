package source_test

import (
	"strings"
	"testing"

	"workflow/api"
)

// An expression with a place for another one.
type place func(api.Node) api.Node

// exprPlaces returns every place that an expression has below another expression.
func exprPlaces() []place {
	p, q := variable("p"), node(api.XAnd, variable("p"), variable("q"))
	l := []place{
		func(n api.Node) api.Node { return node(api.XMap, pair("k", n)) },
		func(n api.Node) api.Node { return node(api.XMap, pair("k", q), pair("l", n)) },
		func(n api.Node) api.Node { return named(api.XField, "x", n) },
	}
	for _, op := range []int{api.XList, api.XCall, api.XGo} {
		n := node(op)
		if op != api.XList {
			n.Name = "f"
		}
		l = append(l, below(n), below(n, p), below(n, p, q))
	}
	for _, op := range []int{api.XAwait, api.XNot, api.XNeg} {
		l = append(l, below(node(op)))
	}
	for op := api.XMul; op <= api.XIndex; op++ {
		l = append(l, below(node(op), p), func(n api.Node) api.Node { return node(op, n, p) })
	}
	return l
}

// below returns the place behind the first kids of a node.
func below(n api.Node, first ...api.Node) place {
	return func(kid api.Node) api.Node {
		n.Kids = append(append([]api.Node{}, first...), kid)
		return n
	}
}

// smallExprs returns an expression with each Op, those with operands with names as operands, and some more.
func smallExprs() []api.Node {
	a, b := variable("a"), variable("b")
	l := []api.Node{node(api.XNull), node(api.XTrue), node(api.XFalse), number(0), number(12), text("s"), a, node(api.XList), node(api.XList, a, b), node(api.XMap), node(api.XMap, pair("k", a)), named(api.XCall, "f"), named(api.XCall, "f", a, b), named(api.XGo, "f"), named(api.XGo, "f", a, b), node(api.XAwait, a), node(api.XNot, a), node(api.XNeg, a), node(api.XNeg, number(3)), named(api.XField, "x", a)}
	for op := api.XMul; op <= api.XIndex; op++ {
		l = append(l, node(op, a, b))
	}
	return l
}

// statementPlaces returns every place that an expression has below a statement.
func statementPlaces() []place {
	p, b := variable("p"), block()
	choice := func(name string) place {
		return func(n api.Node) api.Node { return node(api.SSelect, named(api.SCase, name, n, b)) }
	}
	return []place{
		below(named(api.SLet, "v")), below(named(api.SSet, "v")), below(node(api.SReturn)), below(node(api.SThrow)), below(node(api.SExpr)), below(named(api.SUndo, "f")), below(named(api.SUndo, "f"), p), choice(""), choice("v"),
		func(n api.Node) api.Node { return node(api.SIf, n, b) }, func(n api.Node) api.Node { return node(api.SIf, n, b, b) }, func(n api.Node) api.Node { return node(api.SIf, p, b, node(api.SIf, n, b)) }, func(n api.Node) api.Node { return node(api.SWhile, n, b) },
	}
}

// P9.1, P9.2: every Op of an expression in every place below every other one, and below those below every other one.
func TestEachBelowEach(t *testing.T) {
	places := exprPlaces()
	for _, outer := range places {
		for _, kid := range smallExprs() {
			n := outer(kid)
			wantReference(t, n)
			for _, inner := range places {
				wantReference(t, outer(inner(kid)))
			}
		}
	}
}

// P9.1, P9.2: expressions of every level in places of every level, four deep.
func TestDeepLevels(t *testing.T) {
	p := variable("p")
	places := []place{below(node(api.XNot)), below(node(api.XNeg)), below(node(api.XAwait)), below(named(api.XGo, "f")), func(n api.Node) api.Node { return named(api.XField, "x", n) }}
	for _, op := range []int{api.XOr, api.XAnd, api.XLe, api.XSub, api.XMod, api.XIndex} {
		places = append(places, below(node(op), p), func(n api.Node) api.Node { return node(op, n, p) })
	}
	for _, one := range places {
		for _, two := range places {
			for _, three := range places {
				for _, kid := range []api.Node{p, node(api.XOr, p, p), named(api.XGo, "f"), node(api.XNot, p)} {
					wantReference(t, one(two(three(kid))))
				}
			}
		}
	}
}

// P9.1: an operand has parentheses exactly if its level is less than what the grammar requires.
func TestParenthesesByLevel(t *testing.T) {
	for _, l := range levels {
		for _, op := range l.ops {
			for i, least := range l.operands {
				for _, kid := range smallExprs() {
					n := node(op)
					for range l.operands {
						n.Kids = append(n.Kids, variable("p"))
					}
					if op == api.XField {
						n.Name = "x"
					}
					n.Kids[i] = kid
					level, _ := refLevel(kid.Op)
					outer, inner := wantReference(t, n), wantReference(t, kid)
					if strings.Contains(outer, "("+inner+")") != (level < least) {
						t.Errorf("%q in %q", inner, outer)
					}
				}
			}
		}
	}
}

// P9.1, P9.2: every expression in every place below a statement, where no expression needs parentheses.
func TestEachBelowStatements(t *testing.T) {
	for _, statement := range statementPlaces() {
		for _, kid := range smallExprs() {
			src, inner := wantReference(t, body(statement(kid))), wantReference(t, kid)
			if strings.Contains(src, "("+inner+")") && statement(kid).Op != api.SUndo {
				t.Errorf("parentheses in %q", src)
			}
			for _, place := range exprPlaces() {
				wantReference(t, body(statement(place(kid))))
			}
		}
	}
}

// blockPlaces returns every place that a block has below a statement.
func blockPlaces() []place {
	p, b := variable("p"), block(node(api.SReturn))
	return []place{
		func(n api.Node) api.Node { return node(api.SIf, p, n) }, func(n api.Node) api.Node { return node(api.SIf, p, n, b) }, func(n api.Node) api.Node { return node(api.SIf, p, b, n) }, func(n api.Node) api.Node { return node(api.SIf, p, b, node(api.SIf, p, n)) }, func(n api.Node) api.Node { return node(api.SIf, p, b, node(api.SIf, p, b, n)) },
		func(n api.Node) api.Node { return node(api.SWhile, p, n) }, func(n api.Node) api.Node { return named(api.STry, "v", n, b) }, func(n api.Node) api.Node { return named(api.STry, "v", b, n) }, func(n api.Node) api.Node { return node(api.SSaga, n) },
		func(n api.Node) api.Node { return node(api.SSelect, node(api.SCase, p, n)) }, func(n api.Node) api.Node {
			return node(api.SSelect, named(api.SCase, "v", p, n), named(api.SCase, "v", p, b))
		}, func(n api.Node) api.Node { return node(api.SSelect, node(api.SElse, n)) }, func(n api.Node) api.Node { return node(api.SSelect, node(api.SCase, p, b), node(api.SElse, n)) },
	}
}

// programPlaces returns every place that a block has below a declaration.
func programPlaces() []place {
	b := block(node(api.SReturn))
	return []place{
		func(n api.Node) api.Node { return node(api.DProgram, named(api.DFunc, "f", n)) },
		func(n api.Node) api.Node {
			return node(api.DProgram, named(api.DVar, "v", number(1)), named(api.DFunc, "f", variable("a"), variable("b"), n))
		},
		func(n api.Node) api.Node { return node(api.DProgram, handler(api.DSignal, "s", "a", n)) }, func(n api.Node) api.Node { return node(api.DProgram, handler(api.DQuery, "q", "a", n)) },
		func(n api.Node) api.Node { return node(api.DProgram, handler(api.DUpdate, "u", "a", n)) }, func(n api.Node) api.Node { return node(api.DProgram, handler(api.DUpdate, "u", "a", n, b)) }, func(n api.Node) api.Node { return node(api.DProgram, handler(api.DUpdate, "u", "a", b, n)) },
	}
}

// P9.1, P9.2: blocks of no statement, of each one and of several in every place of a block, and below each other.
func TestBlocksInBlocks(t *testing.T) {
	blocks := []api.Node{block(), block(node(api.SReturn), node(api.SReturn))}
	for _, statement := range statementPlaces() {
		n := statement(variable("a"))
		blocks = append(blocks, block(n), block(n, node(api.SSaga, block()), n))
	}
	for _, b := range blocks {
		for _, program := range programPlaces() {
			wantReference(t, program(b))
			for _, outer := range blockPlaces() {
				wantReference(t, program(block(outer(b))))
				for _, inner := range blockPlaces() {
					wantReference(t, program(block(outer(block(inner(b))), outer(block()))))
				}
			}
		}
	}
}
