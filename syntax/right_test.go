package syntax_test

import (
	"math"
	"math/rand"
	"slices"
	"strings"
	"testing"

	"workflow/api"
	"workflow/syntax"
)

// checkRight compares Right and RightExpr with the reference, and reports whether one of them holds.
func checkRight(t *testing.T, n api.Node) bool {
	t.Helper()
	right, rightExpr := refRight(n), refRightExpr(n)
	if syntax.Right(n) != right || syntax.RightExpr(n) != rightExpr {
		t.Fatalf("%s: Right %t, RightExpr %t, want %t, %t", brief(shape(n)), syntax.Right(n), syntax.RightExpr(n), right, rightExpr)
	}
	return right || rightExpr
}

// allOps are the Ops of the chapter.
func allOps() []int {
	var l []int
	for op := range 66 {
		if forms[op].letter != "" {
			l = append(l, op)
		}
	}
	return l
}

// least returns a small tree with an Op that is right where this Op may stand.
func least(op int) api.Node {
	x, b := node(api.XNull), block()
	switch op {
	case api.XName, api.XCall, api.XGo, api.SUndo:
		return named(op, "a")
	case api.XPair:
		return pair("", x)
	case api.XAwait, api.XNot, api.XNeg, api.SThrow, api.SExpr:
		return node(op, x)
	case api.XField, api.SLet, api.SSet, api.DVar:
		return named(op, "a", x)
	case api.SIf, api.SWhile, api.SCase:
		return node(op, x, b)
	case api.STry:
		return named(op, "a", b, b)
	case api.SSaga, api.SElse:
		return node(op, b)
	case api.SSelect:
		return node(op, node(api.SElse, b))
	case api.DFunc:
		return named(op, "a", b)
	case api.DSignal, api.DQuery, api.DUpdate:
		return handler(op, "a", "b", b)
	}
	if op >= api.XMul && op <= api.XIndex {
		return node(op, x, x)
	}
	return node(op)
}

// enclosed returns a tree of a program or an expression around a node, with the node where its Op may stand.
func enclosed(n api.Node) api.Node {
	switch letter := forms[n.Op].letter; {
	case letter == "p":
		return node(api.XMap, n)
	case letter == "s" || letter == "f":
		return body(n)
	case letter == "k" || letter == "l":
		return body(node(api.SSelect, n))
	case letter == "b":
		return node(api.DProgram, named(api.DFunc, "f", n))
	case letter == "d":
		return node(api.DProgram, n)
	}
	return n
}

// P8.3: each Op has a tree that is right, and is right nowhere but where the chapter has it.
func TestRightOfEachOp(t *testing.T) {
	for _, op := range allOps() {
		n := least(op)
		if !checkRight(t, enclosed(n)) {
			t.Errorf("%s is not right", shape(enclosed(n)))
		}
		isExpr := op <= api.XField && op != api.XPair
		if syntax.Right(n) != (op == api.DProgram) || syntax.RightExpr(n) != isExpr {
			t.Errorf("%s alone: %t, %t", shape(n), syntax.Right(n), syntax.RightExpr(n))
		}
		if syntax.RightExpr(enclosed(n)) != (isExpr || op == api.XPair) {
			t.Errorf("RightExpr of %s", shape(enclosed(n)))
		}
	}
}

// P8.3: Ops that do not exist, as the root and below it.
func TestRightOfOtherOps(t *testing.T) {
	for _, op := range []int{0, -1, -6, 30, 31, 39, 54, 55, 59, 66, 67, 100, 1 << 32, 1<<32 + 1, 1<<32 + 60, math.MaxInt, math.MinInt} {
		for _, n := range []api.Node{node(op), named(op, "a"), node(op, node(api.XNull)), node(op, block()), node(op, node(api.XNull), node(api.XNull)), {Op: op, Int: 1}, {Op: op, Text: "a"}} {
			for _, m := range []api.Node{n, node(api.XNot, n), node(api.XList, n), node(api.XMap, n), named(api.XCall, "f", n), node(api.XAdd, n, n), node(api.DProgram, n), body(n), node(api.DProgram, named(api.DFunc, "f", n)), node(api.DProgram, named(api.DFunc, "f", n, block())), node(api.DProgram, named(api.DVar, "a", n)), body(node(api.SSelect, n)), body(node(api.SReturn, n)), body(node(api.SIf, node(api.XNull), block(), n))} {
				if syntax.Right(m) || syntax.RightExpr(m) {
					t.Errorf("%s is right", shape(m))
				}
			}
		}
	}
}

// P8.3: every Op with every list of up to two kids, and some longer ones.
func TestRightOfKids(t *testing.T) {
	ops := allOps()
	right := 0
	check := func(op int, kids ...api.Node) {
		n := least(op)
		n.Kids = kids
		if checkRight(t, enclosed(n)) {
			right++
		}
	}
	for _, op := range ops {
		check(op)
		for _, x := range ops {
			check(op, least(x))
			for _, y := range ops {
				check(op, least(x), least(y))
			}
		}
		some := []int{api.XNull, api.XInt, api.XName, api.XNeg, api.XPair, api.SIf, api.SReturn, api.SBlock, api.SCase, api.SElse, api.DVar}
		for _, x := range some {
			for _, y := range some {
				for _, z := range some {
					check(op, least(x), least(y), least(z))
					check(op, least(x), least(y), least(z), least(api.SBlock))
					check(op, least(x), least(y), least(z), least(api.SElse))
				}
			}
		}
	}
	if right < 2500 {
		t.Errorf("only %d trees are right", right)
	}
}

// P8.3: a constant is a literal, or XNeg of an integer that is not negative.
func TestRightOfConstants(t *testing.T) {
	for _, x := range []struct {
		n    api.Node
		want bool
	}{
		{node(api.XNull), true}, {node(api.XTrue), true}, {node(api.XFalse), true}, {number(0), true}, {number(math.MaxInt), true}, {text(""), true}, {text("a"), true},
		{node(api.XNeg, number(0)), true}, {node(api.XNeg, number(math.MaxInt)), true},
		{number(-1), false}, {node(api.XNeg, number(-1)), false}, {node(api.XNeg), false}, {node(api.XNeg, number(1), number(1)), false}, {node(api.XNeg, text("1")), false}, {node(api.XNeg, node(api.XNull)), false}, {node(api.XNeg, variable("a")), false}, {node(api.XNeg, node(api.XNeg, number(1))), false}, {named(api.XNeg, "a", number(1)), false},
		{variable("a"), false}, {node(api.XList), false}, {node(api.XMap), false}, {named(api.XCall, "f"), false}, {node(api.XNot, node(api.XTrue)), false}, {node(api.XAdd, number(1), number(1)), false}, {node(api.XNull, number(1)), false}, {block(), false},
	} {
		if got := syntax.Right(node(api.DProgram, named(api.DVar, "v", x.n))); got != x.want {
			t.Errorf("the constant %s: %t", shape(x.n), got)
		}
	}
	if !syntax.RightExpr(node(api.XNeg, node(api.XNeg, text("a")))) {
		t.Error("an expression is no constant")
	}
}

// P8.3: a select statement has at least one branch, at most MaxCases cases, and an else only behind them.
func TestRightOfSelect(t *testing.T) {
	one, other := named(api.SCase, "x", variable("a"), block()), node(api.SElse, block())
	for cases := range 20 {
		for elses := range 3 {
			l := append(repeated(one, cases), repeated(other, elses)...)
			want := cases <= 16 && elses <= 1 && cases+elses > 0
			if got := syntax.Right(body(node(api.SSelect, l...))); got != want {
				t.Errorf("%d cases and %d else: %t", cases, elses, got)
			}
			if elses > 0 && cases > 0 {
				slices.Reverse(l)
				if syntax.Right(body(node(api.SSelect, l...))) {
					t.Errorf("%d cases behind %d else", cases, elses)
				}
			}
		}
	}
}

// P8.3: each field of each Op with right and with wrong contents.
func TestRightOfFields(t *testing.T) {
	names := []string{"", "a", "_", "Z9_", "if", "If", "check", "null", "9a", "a b", "a ", " a", "a\n", "a.b", "a-", "1", `"a"`, "(", "a(", "\u00e9", "a\x80", "a\x00", strings.Repeat("n", 64), strings.Repeat("n", 65), strings.Repeat(" ", 20000), "a" + strings.Repeat(" ", 16384)}
	texts := append(slices.Clone(names), "\x00\xff", strings.Repeat("n", 4096), strings.Repeat("\xff", 4096), strings.Repeat("n", 4097), strings.Repeat("n", 100000))
	numbers := []int{0, 1, 2, -1, 1 << 31, 1 << 32, math.MaxInt, math.MinInt}
	right := 0
	check := func(n api.Node) {
		if checkRight(t, enclosed(n)) {
			right++
		}
	}
	for _, op := range allOps() {
		for _, name := range names {
			n := least(op)
			n.Name = name
			check(n)
		}
		for _, s := range texts {
			n := least(op)
			n.Text = s
			check(n)
		}
		for _, i := range numbers {
			n := least(op)
			n.Int = i
			check(n)
		}
		n := least(op)
		n.Name, n.Text, n.Int = "a", "a", 1
		check(n)
	}
	if right < 250 {
		t.Errorf("only %d trees are right", right)
	}
	for _, word := range strings.Fields(keywords) {
		if syntax.RightExpr(variable(word)) || syntax.Right(node(api.DProgram, handler(api.DQuery, "q", word, block()))) || syntax.Right(node(api.DProgram, handler(api.DQuery, word, "x", block()))) {
			t.Errorf("the name %s", word)
		}
		if !syntax.RightExpr(variable(word+"_")) || !syntax.RightExpr(text(word)) {
			t.Errorf("the name %s_ or the string %s", word, word)
		}
	}
	for c := range 256 {
		for _, s := range []string{string([]byte{byte(c)}), "a" + string([]byte{byte(c)}), string([]byte{byte(c)}) + "a"} {
			if syntax.RightExpr(variable(s)) != refName(s) || !syntax.RightExpr(text(s)) {
				t.Errorf("the name %q", s)
			}
		}
	}
}

// changes calls a function for each change of one node of a tree, with the changed tree.
func changes(n api.Node, whole func(api.Node)) {
	change := func(f func(*api.Node)) {
		m := n
		m.Kids = slices.Clone(n.Kids)
		f(&m)
		whole(m)
	}
	for op := -1; op <= 66; op++ {
		change(func(m *api.Node) { m.Op = op })
	}
	for _, s := range []string{"", "b", "if", "1", "a b", strings.Repeat("n", 65)} {
		change(func(m *api.Node) { m.Name = s })
		change(func(m *api.Node) { m.Text = s })
	}
	for _, i := range []int{0, 1, -1} {
		change(func(m *api.Node) { m.Int = i })
	}
	change(func(m *api.Node) { m.Kids = nil })
	change(func(m *api.Node) { m.Kids = []api.Node{} })
	change(func(m *api.Node) { slices.Reverse(m.Kids) })
	for i := range len(n.Kids) + 1 {
		for _, kid := range []api.Node{variable("a"), number(1), pair("k", number(1)), block(), node(api.SReturn), node(api.SCase, number(1), block()), node(api.SElse, block()), least(api.SIf), least(api.DVar), {}} {
			change(func(m *api.Node) { m.Kids = slices.Insert(m.Kids, i, kid) })
		}
	}
	for i := range n.Kids {
		change(func(m *api.Node) { m.Kids = slices.Delete(m.Kids, i, i+1) })
		change(func(m *api.Node) { m.Kids = slices.Insert(m.Kids, i, m.Kids[i]) })
		changes(n.Kids[i], func(kid api.Node) {
			change(func(m *api.Node) { m.Kids[i] = kid })
		})
	}
}

// P8.3, P8.4, P8.1: every change of one node of the samples. What is right then is the tree of its text.
func TestRightOfChangedTrees(t *testing.T) {
	right, wrong := 0, 0
	for _, src := range samples {
		tree, _, _, _ := refParse("program", src)
		before := shape(tree)
		changes(tree, func(n api.Node) {
			after := shape(n)
			if syntax.Same(tree, n) != (before == after) || syntax.Same(n, tree) != (before == after) {
				t.Fatalf("Same of %s and %s", before, after)
			}
			if !checkRight(t, n) {
				wrong++
				return
			}
			right++
			wantTree(t, "program", writer{}.text(n), n)
		})
	}
	if right < 2000 || wrong < 20000 {
		t.Errorf("%d trees are right, %d are not", right, wrong)
	}
}

// P8.3: nil and empty lists of kids are the same, and what is behind the length of a list does not count.
func TestRightOfEmptyLists(t *testing.T) {
	for _, op := range allOps() {
		for _, kids := range [][]api.Node{nil, {}, []api.Node{node(99), node(99)}[:0], make([]api.Node, 0, 5)} {
			n := least(op)
			nilled := n
			nilled.Kids, n.Kids = nil, kids
			if syntax.Right(enclosed(n)) != syntax.Right(enclosed(nilled)) || syntax.RightExpr(enclosed(n)) != syntax.RightExpr(enclosed(nilled)) || !syntax.Same(n, nilled) {
				t.Errorf("the Op %d without kids", op)
			}
		}
		n := least(op)
		n.Kids = append(slices.Clone(n.Kids), node(99), node(99))[:len(n.Kids)]
		if !checkRight(t, enclosed(n)) {
			t.Errorf("%s is not right", shape(n))
		}
	}
}

// P8.3: trees of MaxTree and MaxTree + 1 nodes, and of the depths MaxNesting and MaxNesting + 1.
func TestRightOfGreatTrees(t *testing.T) {
	for _, x := range []struct {
		n, depth int
		want     bool
	}{{3999, 1, true}, {4000, 1, false}, {100000, 1, false}, {0, 40, true}, {0, 41, false}, {0, 1000, false}, {0, 65535, false}, {3960, 39, true}, {3960, 40, false}, {3961, 39, true}, {3962, 39, false}, {3959, 40, false}, {4000, 40, false}} {
		n := node(api.XList)
		for range x.depth - 1 {
			n = node(api.XList, n)
		}
		if x.n > 0 {
			// The deep kid is the first, the last, and in the middle.
			n = node(api.XList, append([]api.Node{n}, repeated(number(0), x.n-1)...)...)
		}
		for range 3 {
			if got := syntax.RightExpr(n); got != x.want || syntax.RightExpr(n) != refRightExpr(n) {
				t.Errorf("%d numbers and the depth %d: %t", x.n, x.depth, got)
			}
			k := len(n.Kids)
			n = node(api.XList, append(slices.Clone(n.Kids[k/2:]), n.Kids[:k/2]...)...)
		}
	}
	for _, x := range []struct {
		statements int
		want       bool
	}{{3997, true}, {3998, false}, {50000, false}} {
		if got := syntax.Right(body(repeated(node(api.SReturn), x.statements)...)); got != x.want {
			t.Errorf("%d statements: %t", x.statements, got)
		}
	}
	n := node(api.SReturn)
	for range 18 {
		n = node(api.SSaga, block(n))
	}
	if !syntax.Right(body(n)) || syntax.Right(body(node(api.SSaga, block(n)))) {
		t.Error("sagas in 18 or 19 sagas")
	}
}

// P8.3: a tree that contains itself is not right, which is found without walking through it.
func TestRightOfEndlessTrees(t *testing.T) {
	for _, kids := range [][]api.Node{make([]api.Node, 1), make([]api.Node, 2), make([]api.Node, 50)} {
		for i := range kids {
			kids[i] = node(api.XList, kids...)
			kids[i].Kids = kids
		}
		if n := node(api.XList, kids...); syntax.RightExpr(n) || syntax.Right(node(api.DProgram, n)) {
			t.Errorf("an endless tree of %d kids is right", len(kids))
		}
	}
}

// P8.4: the size and the depth of trees, right and wrong ones.
func TestSizeAndDepth(t *testing.T) {
	deep := node(0)
	for range 65535 {
		deep = node(-1, deep)
	}
	for _, x := range []struct {
		n           api.Node
		size, depth int
	}{
		{api.Node{}, 1, 1}, {node(99, []api.Node{}...), 1, 1}, {node(api.DProgram), 1, 1}, {node(api.XNot, node(api.XNull)), 2, 2}, {node(api.XList, number(1), number(2), number(3)), 4, 2}, {body(node(api.SReturn)), 4, 4},
		{node(0, node(0), node(0, node(0, node(0))), node(0, node(0))), 7, 4}, {node(0, node(0, node(0, node(0))), node(0)), 5, 4}, {pair("k", number(1)), 2, 2}, {api.Node{Op: api.XList, Kids: []api.Node{number(1), number(2)}[:1]}, 2, 2},
		{deep, 65536, 65536}, {node(0, deep, deep), 131073, 65537}, {node(0, repeated(number(1), 100000)...), 100001, 2},
	} {
		if size, depth := syntax.Size(x.n), syntax.Depth(x.n); size != x.size || depth != x.depth {
			t.Errorf("%d, %d, want %d, %d", size, depth, x.size, x.depth)
		}
	}
	g := grower{rand.New(rand.NewSource(84))}
	for range 3000 {
		n, _ := g.any(2 + g.random.Intn(9))
		size, depth := refMeasure(n)
		if syntax.Size(n) != size || syntax.Depth(n) != depth {
			t.Fatalf("%s: %d, %d, want %d, %d", brief(shape(n)), syntax.Size(n), syntax.Depth(n), size, depth)
		}
	}
}

// P8.4: trees that differ in one field of one node, at the root and deep below it, are not the same.
func TestSame(t *testing.T) {
	nodes := []api.Node{
		{}, {Op: 1}, {Op: 2}, {Op: -1}, {Name: "a"}, {Name: "b"}, {Name: "ab"}, {Int: 1}, {Int: -1}, {Int: 1 << 32}, {Text: "a"}, {Text: "A"}, {Text: "a\x00"},
		{Kids: []api.Node{{}}}, {Kids: []api.Node{{}, {}}}, {Kids: []api.Node{{Op: 1}}}, {Kids: []api.Node{{}, {Op: 1}}}, {Kids: []api.Node{{Op: 1}, {}}}, {Kids: []api.Node{{Kids: []api.Node{{}}}}}, {Kids: []api.Node{{Kids: []api.Node{{}, {}}}}},
		{Op: 1, Name: "a", Int: 1, Text: "a", Kids: []api.Node{{Op: 1}}}, {Op: 1, Name: "a", Int: 1, Text: "a", Kids: []api.Node{{Op: 2}}}, {Op: 1, Name: "a", Int: 1, Text: "b", Kids: []api.Node{{Op: 1}}},
	}
	for i, a := range nodes {
		for k, b := range nodes {
			for range 5 {
				if got := syntax.Same(a, b); got != (i == k) {
					t.Errorf("Same of %s and %s: %t", shape(a), shape(b), got)
				}
				a, b = node(7, node(1), a, node(2)), node(7, node(1), b, node(2))
			}
			a = nodes[i]
		}
	}
	deep, other := node(0), node(1)
	for range 65535 {
		deep, other = node(7, deep), node(7, other)
	}
	if !syntax.Same(deep, deep) || syntax.Same(deep, other) || syntax.Same(deep, deep.Kids[0]) {
		t.Error("Same of deep trees")
	}
}
