package source_test

import (
	"math"
	"math/rand"
	"strings"
	"testing"

	"workflow/api"
	"workflow/source"
	"workflow/syntax"
)

// wantRefusedByBoth checks that neither Print nor Expr has a text of a tree.
func wantRefusedByBoth(t *testing.T, n api.Node) {
	t.Helper()
	s, e := source.Print(n)
	x, f := source.Expr(n)
	if s != "" || e != api.ErrArg || x != "" || f != api.ErrArg {
		t.Fatalf("Print of %v: %q, %d; Expr: %q, %d", n, brief(s), int(e), brief(x), int(f))
	}
}

// wantBoth checks that Print and Expr return ErrArg exactly for the trees that the chapter says.
func wantBoth(t *testing.T, n api.Node) {
	t.Helper()
	s, e := source.Print(n)
	x, f := source.Expr(n)
	if right := syntax.Right(n); (e == api.ErrArg) == right || !right && s != "" {
		t.Fatalf("Print of %v: %q, %d", n, brief(s), int(e))
	}
	if right := syntax.RightExpr(n); (f == api.ErrArg) == right || !right && x != "" {
		t.Fatalf("Expr of %v: %q, %d", n, brief(x), int(f))
	}
}

// P9.1: trees that are not right have no text.
func TestRefusedTrees(t *testing.T) {
	a, b := variable("a"), block()
	for _, n := range []api.Node{
		{}, node(-1), node(30), node(54), node(66), node(math.MaxInt), node(math.MinInt), {Name: "a"}, {Int: 1}, {Text: "a"}, node(0, a),
		{Op: api.XNull, Name: "a"}, {Op: api.XNull, Int: 1}, {Op: api.XNull, Text: "a"}, node(api.XNull, a), node(api.XTrue, a), node(api.XFalse, a), {Op: api.XTrue, Int: 1}, {Op: api.XFalse, Name: "a"},
		number(-1), number(math.MinInt), {Op: api.XInt, Name: "a"}, {Op: api.XInt, Int: 1, Text: "1"}, node(api.XInt, a), {Op: api.XText, Text: "a", Int: 1}, {Op: api.XText, Name: "a"}, text(strings.Repeat("a", 4097)), node(api.XText, a), {Op: api.XName, Text: "a"}, named(api.XName, "a", a),
		variable(""), variable("1"), variable("a b"), variable("a-b"), variable(" a"), variable("a\n"), variable("é"), variable("if"), variable("let"), variable("null"), variable("and"), variable("not"), variable("await"), variable("go"), variable("while"), variable(strings.Repeat("n", 65)), variable("a(b)"), variable("(a)"),
		named(api.XCall, ""), named(api.XCall, "if"), named(api.XCall, "f g"), named(api.XCall, "f", b), named(api.XCall, "f", pair("k", a)), {Op: api.XCall, Name: "f", Int: 1}, node(api.XGo), named(api.XGo, "go"), {Op: api.XGo, Name: "f", Text: "f"}, named(api.XGo, "f", node(api.SReturn)),
		pair("k", a), node(api.XMap, a), node(api.XMap, node(api.XPair)), node(api.XMap, pair(strings.Repeat("k", 4097), a)), node(api.XMap, node(api.XPair, a, a)), node(api.XMap, named(api.XPair, "k", a)), node(api.XList, pair("k", a)), node(api.XList, b), named(api.XList, "a"), named(api.XMap, "a"), {Op: api.XMap, Text: "a"},
		node(api.XAwait), node(api.XNot), node(api.XNeg), node(api.XAwait, a, a), node(api.XNot, a, a), node(api.XNeg, a, a), node(api.XNeg, number(-1)), named(api.XNot, "a", a), node(api.XNot, b),
		node(api.XAdd), node(api.XAdd, a), node(api.XAdd, a, a, a), node(api.XOr, a, b), named(api.XAnd, "a", a, a), {Op: api.XLt, Int: 1, Kids: []api.Node{a, a}}, node(api.XEq, a), node(api.XIndex), node(api.XIndex, a), node(api.XIndex, a, a, a), named(api.XIndex, "x", a, a), node(api.XField, a), named(api.XField, "x"), named(api.XField, "if", a), named(api.XField, "x", a, a),
		b, node(api.SReturn), node(api.SExpr, a), node(api.SSelect, node(api.SElse, b)), node(api.SElse, b), node(api.SCase, a, b), named(api.DFunc, "f", b), named(api.DVar, "x", a), node(api.DProgram, node(api.DProgram)), node(api.DProgram, a), node(api.DProgram, b), node(api.DProgram, node(api.SReturn)), named(api.DProgram, "a"), {Op: api.DProgram, Int: 1}, {Op: api.DProgram, Text: "a"},
		node(api.DProgram, named(api.DVar, "x")), node(api.DProgram, named(api.DVar, "x", a)), node(api.DProgram, named(api.DVar, "if", number(1))), node(api.DProgram, named(api.DVar, "x", number(-1))), node(api.DProgram, named(api.DVar, "x", node(api.XNeg, a))), node(api.DProgram, named(api.DVar, "x", node(api.XNeg, node(api.XNeg, number(1))))), node(api.DProgram, named(api.DVar, "x", number(1), number(1))), node(api.DProgram, named(api.DVar, "x", node(api.XNeg, text("a")))), node(api.DProgram, named(api.DVar, "x", node(api.XList))),
		node(api.DProgram, node(api.DFunc, b)), node(api.DProgram, named(api.DFunc, "f")), node(api.DProgram, named(api.DFunc, "f", a)), node(api.DProgram, named(api.DFunc, "f", b, a)), node(api.DProgram, named(api.DFunc, "f", number(1), b)), node(api.DProgram, named(api.DFunc, "f", b, b)), node(api.DProgram, named(api.DFunc, "f", variable("if"), b)), node(api.DProgram, named(api.DFunc, "func", b)),
		node(api.DProgram, handler(api.DSignal, "s", "", b)), node(api.DProgram, handler(api.DSignal, "", "p", b)), node(api.DProgram, handler(api.DSignal, "s", "if", b)), node(api.DProgram, handler(api.DSignal, "s", "p", b, b)), node(api.DProgram, handler(api.DQuery, "q", "p")), node(api.DProgram, handler(api.DQuery, "q", "p", b, b)), node(api.DProgram, handler(api.DQuery, "query", "p", b)), node(api.DProgram, handler(api.DUpdate, "u", "p")), node(api.DProgram, handler(api.DUpdate, "u", "p", b, b, b)), node(api.DProgram, handler(api.DUpdate, "u", "p q", b)), node(api.DProgram, handler(api.DUpdate, "u", "p", a, b)),
		body(a), body(b), body(node(api.SElse, b)), body(node(api.SCase, a, b)), body(node(api.SLet, a)), body(named(api.SLet, "x")), body(named(api.SLet, "if", a)), body(named(api.SSet, "x", a, a)), body(node(api.SReturn, a, a)), body(node(api.SThrow)), body(node(api.SExpr)), body(node(api.SExpr, b)), body(named(api.SExpr, "x", a)), body(node(api.SUndo)), body(named(api.SUndo, "undo")), body(named(api.SUndo, "f", b)),
		body(node(api.SIf, a)), body(node(api.SIf, b, a)), body(node(api.SIf, a, b, b, b)), body(node(api.SIf, a, b, node(api.SReturn))), body(node(api.SIf, a, b, a)), body(node(api.SWhile, a)), body(node(api.SWhile, a, a)), body(node(api.SWhile, a, b, b)), body(node(api.STry, b, b)), body(named(api.STry, "e", b)), body(named(api.STry, "e", b, b, b)), body(named(api.STry, "catch", b, b)), body(node(api.SSaga)), body(node(api.SSaga, a)), body(node(api.SSaga, b, b)), body(named(api.SSaga, "x", b)),
		body(node(api.SSelect)), body(node(api.SSelect, b)), body(node(api.SSelect, node(api.SElse, b), node(api.SElse, b))), body(node(api.SSelect, node(api.SElse, b), node(api.SCase, a, b))), body(node(api.SSelect, node(api.SCase, a))), body(node(api.SSelect, named(api.SCase, "case", a, b))), body(node(api.SSelect, named(api.SCase, "x y", a, b))), body(node(api.SSelect, named(api.SElse, "x", b))), body(node(api.SSelect, node(api.SElse))),
	} {
		wantRefusedByBoth(t, n)
		wantRefusedByBoth(t, node(api.XNot, n))
		wantRefusedByBoth(t, body(node(api.SExpr, n)))
		wantRefusedByBoth(t, node(api.XList, a, a, node(api.XMap, pair("k", n))))
	}
}

// P9.1: a program is no expression, and an expression is no program.
func TestRefusedByTheOther(t *testing.T) {
	if s, e := source.Expr(node(api.DProgram)); s != "" || e != api.ErrArg {
		t.Errorf("%q, %d", s, int(e))
	}
	if s, e := source.Expr(body(node(api.SReturn))); s != "" || e != api.ErrArg {
		t.Errorf("%q, %d", s, int(e))
	}
	for _, n := range smallExprs() {
		if s, e := source.Print(n); s != "" || e != api.ErrArg {
			t.Errorf("%q, %d", s, int(e))
		}
		wantBoth(t, n)
	}
}

// spoil changes one thing in a node.
func (g grower) spoil(n *api.Node) {
	switch g.random.Intn(8) {
	case 0:
		n.Op = g.random.Intn(67)
	case 1:
		n.Name = []string{"", "x", "if", "a b", strings.Repeat("n", 65)}[g.random.Intn(5)]
	case 2:
		n.Text = []string{"", "x", "if", "a b", strings.Repeat("n", 4097)}[g.random.Intn(5)]
	case 3:
		n.Int = g.pick(-1, 0, 1, math.MinInt)
	case 4:
		n.Kids = append(n.Kids, g.leaf())
	case 5:
		n.Kids = append(n.Kids, block())
	case 6:
		if len(n.Kids) > 0 {
			n.Kids = n.Kids[1:]
		}
	case 7:
		if len(n.Kids) > 0 {
			n.Kids = n.Kids[:len(n.Kids)-1]
		}
	}
}

// P9.1, P9.2: of random trees that are changed in one place, those that are still right have the text of the reference.
func TestSpoiledTrees(t *testing.T) {
	g := grower{rand.New(rand.NewSource(91))}
	right, wrong := 0, 0
	for range 20000 {
		n := g.any(3 + g.random.Intn(5))
		at := g.random.Intn(syntax.Size(n))
		each(&n, func(n *api.Node) {
			if at == 0 {
				g.spoil(n)
			}
			at--
		})
		wantBoth(t, n)
		if syntax.Right(n) || syntax.RightExpr(n) {
			wantReference(t, n)
			right++
		} else {
			wrong++
		}
	}
	if right < 2000 || wrong < 2000 {
		t.Errorf("%d right, %d wrong", right, wrong)
	}
}

// P9.1, R1: a tree that contains itself is refused.
func TestEndlessTree(t *testing.T) {
	for _, op := range []int{api.XNot, api.XList, api.DProgram, api.SBlock} {
		n := node(op, api.Node{})
		n.Kids[0] = n
		wantRefusedByBoth(t, n)
		wantRefusedByBoth(t, body(n))
		wantRefusedByBoth(t, node(api.XNeg, n))
	}
}
