package source_test

import (
	"math"
	"strings"
	"testing"

	"workflow/api"
	"workflow/source"
	"workflow/syntax"
)

// P9.1: the chapter's examples.
func TestExamples(t *testing.T) {
	for _, x := range []struct{ src, want string }{{"(a+b)*-c", "(a + b) * -c"}, {"a+(b*c)", "a + b * c"}, {"not (a or b)", "not (a or b)"}} {
		n, _, e := syntax.Expr(x.src)
		if e != api.OK {
			t.Fatal(x.src)
		}
		wantText(t, n, x.want)
	}
	want := "func main(x) {\n  if x {\n    return 1;\n  } else {\n    throw \"n\";\n  }\n}\n"
	if s, at, e := source.Format(`func main(x){if x{return 1;}else{throw "n";}}`); s != want || at != 0 || e != api.OK {
		t.Errorf("%q, %d, %d", s, at, int(e))
	}
}

// P9.1: every Op of an expression, alone.
func TestEachExpression(t *testing.T) {
	a, b, c := variable("a"), variable("b"), variable("c")
	for _, x := range []struct {
		n    api.Node
		want string
	}{
		{node(api.XNull), "null"}, {node(api.XTrue), "true"}, {node(api.XFalse), "false"},
		{number(0), "0"}, {number(7), "7"}, {number(42), "42"}, {number(math.MaxInt), "9223372036854775807"},
		{text(""), `""`}, {text("a"), `"a"`}, {text("a b"), `"a b"`}, {a, "a"}, {variable("_Az09"), "_Az09"}, {variable("IF"), "IF"}, {variable(strings.Repeat("n", 64)), strings.Repeat("n", 64)},
		{node(api.XList), "[]"}, {node(api.XList, a), "[a]"}, {node(api.XList, a, b), "[a, b]"}, {node(api.XList, a, b, c), "[a, b, c]"}, {node(api.XList, node(api.XList), node(api.XList)), "[[], []]"},
		{node(api.XMap), "{}"}, {node(api.XMap, pair("k", a)), `{"k": a}`}, {node(api.XMap, pair("k", a), pair("l", b)), `{"k": a, "l": b}`}, {node(api.XMap, pair("l", b), pair("k", a), pair("", c)), `{"l": b, "k": a, "": c}`},
		{node(api.XMap, pair("k", a), pair("k", a)), `{"k": a, "k": a}`}, {node(api.XMap, pair("k", node(api.XMap))), `{"k": {}}`},
		{named(api.XCall, "f"), "f()"}, {named(api.XCall, "f", a), "f(a)"}, {named(api.XCall, "f", a, b), "f(a, b)"}, {named(api.XCall, "f", a, b, c), "f(a, b, c)"}, {named(api.XCall, "f", named(api.XCall, "g")), "f(g())"},
		{named(api.XGo, "f"), "go f()"}, {named(api.XGo, "f", a), "go f(a)"}, {named(api.XGo, "f", a, b), "go f(a, b)"}, {named(api.XGo, "f", named(api.XGo, "g")), "go f(go g())"},
		{node(api.XAwait, a), "await a"}, {node(api.XNot, a), "not a"}, {node(api.XNeg, a), "-a"}, {node(api.XNeg, number(1)), "-1"}, {node(api.XNeg, number(0)), "-0"}, {node(api.XNeg, number(math.MaxInt)), "-9223372036854775807"},
		{node(api.XMul, a, b), "a * b"}, {node(api.XDiv, a, b), "a / b"}, {node(api.XMod, a, b), "a % b"}, {node(api.XAdd, a, b), "a + b"}, {node(api.XSub, a, b), "a - b"},
		{node(api.XLt, a, b), "a < b"}, {node(api.XLe, a, b), "a <= b"}, {node(api.XGt, a, b), "a > b"}, {node(api.XGe, a, b), "a >= b"}, {node(api.XEq, a, b), "a == b"}, {node(api.XNe, a, b), "a != b"},
		{node(api.XAnd, a, b), "a and b"}, {node(api.XOr, a, b), "a or b"},
		{node(api.XIndex, a, b), "a[b]"}, {named(api.XField, "x", a), "a.x"}, {named(api.XField, "x", number(5)), "5.x"}, {named(api.XField, "x", text("s")), `"s".x`}, {node(api.XIndex, node(api.XMap), node(api.XNull)), "{}[null]"},
	} {
		wantText(t, x.n, x.want)
		wantReference(t, x.n)
	}
}

// P9.1: chains of one operator from the left and from the right, and comparisons below comparisons.
func TestChains(t *testing.T) {
	a, b, c, d := variable("a"), variable("b"), variable("c"), variable("d")
	for op := api.XMul; op <= api.XOr; op++ {
		sign := strings.Trim(patterns[op], "01")
		left, right := node(op, node(op, node(op, a, b), c), d), node(op, a, node(op, b, node(op, c, d)))
		both := node(op, node(op, a, b), node(op, c, d))
		if op >= api.XLt && op <= api.XNe {
			wantText(t, left, "((a"+sign+"b)"+sign+"c)"+sign+"d")
			wantText(t, both, "(a"+sign+"b)"+sign+"(c"+sign+"d)")
		} else {
			wantText(t, left, "a"+sign+"b"+sign+"c"+sign+"d")
			wantText(t, both, "a"+sign+"b"+sign+"(c"+sign+"d)")
		}
		wantText(t, right, "a"+sign+"(b"+sign+"(c"+sign+"d))")
	}
	for op := api.XLt; op <= api.XNe; op++ {
		for other := api.XLt; other <= api.XNe; other++ {
			sign, inner := strings.Trim(patterns[op], "01"), strings.Trim(patterns[other], "01")
			wantText(t, node(op, node(other, a, b), c), "(a"+inner+"b)"+sign+"c")
			wantText(t, node(op, a, node(other, b, c)), "a"+sign+"(b"+inner+"c)")
		}
	}
}

// P9.1: operators with one operand below each other, on each side of other ones, and in front of indices and fields.
func TestOneOperand(t *testing.T) {
	a, b := variable("a"), variable("b")
	not, neg := func(n api.Node) api.Node { return node(api.XNot, n) }, func(n api.Node) api.Node { return node(api.XNeg, n) }
	await, start := func(n api.Node) api.Node { return node(api.XAwait, n) }, named(api.XGo, "f", a)
	field, index := func(n api.Node) api.Node { return named(api.XField, "x", n) }, func(n api.Node) api.Node { return node(api.XIndex, n, b) }
	for _, x := range []struct {
		n    api.Node
		want string
	}{
		{not(not(a)), "not not a"}, {not(neg(a)), "not -a"}, {not(await(a)), "not await a"}, {not(start), "not go f(a)"},
		{neg(not(a)), "-(not a)"}, {neg(neg(a)), "--a"}, {neg(neg(neg(number(1)))), "---1"}, {neg(await(a)), "-await a"}, {neg(start), "-go f(a)"},
		{await(not(a)), "await (not a)"}, {await(neg(a)), "await -a"}, {await(await(a)), "await await a"}, {await(start), "await go f(a)"}, {named(api.XGo, "f", not(a), neg(a), await(a)), "go f(not a, -a, await a)"},
		{not(field(a)), "not a.x"}, {neg(field(a)), "-a.x"}, {await(field(a)), "await a.x"}, {not(index(a)), "not a[b]"}, {neg(index(a)), "-a[b]"}, {await(index(a)), "await a[b]"},
		{field(not(a)), "(not a).x"}, {field(neg(a)), "(-a).x"}, {field(await(a)), "(await a).x"}, {field(start), "(go f(a)).x"},
		{index(not(a)), "(not a)[b]"}, {index(neg(a)), "(-a)[b]"}, {index(await(a)), "(await a)[b]"}, {index(start), "(go f(a))[b]"},
		{node(api.XIndex, a, not(b)), "a[not b]"}, {node(api.XIndex, a, neg(b)), "a[-b]"}, {node(api.XIndex, a, node(api.XOr, a, b)), "a[a or b]"}, {node(api.XIndex, a, index(b)), "a[b[b]]"},
		{field(index(field(index(a)))), "a[b].x[b].x"}, {field(field(a)), "a.x.x"}, {index(index(a)), "a[b][b]"}, {field(named(api.XCall, "f")), "f().x"}, {index(named(api.XCall, "f")), "f()[b]"},
		{node(api.XAnd, not(a), not(b)), "not a and not b"}, {node(api.XOr, not(a), not(b)), "not a or not b"}, {not(node(api.XAnd, a, b)), "not (a and b)"}, {not(node(api.XOr, a, b)), "not (a or b)"},
		{not(node(api.XLt, a, b)), "not a < b"}, {node(api.XLt, not(a), b), "(not a) < b"}, {node(api.XEq, a, not(b)), "a == (not b)"}, {not(node(api.XAdd, a, b)), "not a + b"}, {node(api.XAdd, not(a), not(b)), "(not a) + (not b)"}, {node(api.XMul, not(a), not(b)), "(not a) * (not b)"},
		{neg(node(api.XAdd, a, b)), "-(a + b)"}, {neg(node(api.XMul, a, b)), "-(a * b)"}, {node(api.XSub, a, neg(b)), "a - -b"}, {node(api.XSub, neg(a), b), "-a - b"}, {node(api.XMul, neg(a), neg(b)), "-a * -b"}, {node(api.XSub, neg(number(1)), neg(number(1))), "-1 - -1"},
		{await(node(api.XAdd, a, b)), "await (a + b)"}, {node(api.XAdd, await(a), await(b)), "await a + await b"}, {node(api.XDiv, start, start), "go f(a) / go f(a)"}, {node(api.XLe, start, await(b)), "go f(a) <= await b"},
	} {
		wantText(t, x.n, x.want)
		wantReference(t, x.n)
	}
}

// P9.1, P9.2: strings with every byte, and with MaxText bytes, as literals and as keys.
func TestStrings(t *testing.T) {
	for _, x := range []struct{ s, want string }{
		{"\"", `"\""`}, {"\\", `"\\"`}, {"\n", `"\n"`}, {"\t", `"\t"`}, {"\r", `"\x0d"`}, {"\x00", `"\x00"`}, {"\x1f", `"\x1f"`}, {" ", `" "`}, {"~", `"~"`}, {"\x7f", `"\x7f"`}, {"\x80", `"\x80"`}, {"\xff", `"\xff"`}, {"é", `"\xc3\xa9"`}, {"\u2028", `"\xe2\x80\xa8"`},
		{"a\"b\\c\nd\te\x01f/'", `"a\"b\\c\nd\te\x01f/'"`}, {`\n`, `"\\n"`}, {`\x41`, `"\\x41"`}, {"if", `"if"`}, {"// ; {", `"// ; {"`}, {strings.Repeat("a", 4096), `"` + strings.Repeat("a", 4096) + `"`},
	} {
		wantText(t, text(x.s), x.want)
		wantText(t, node(api.XMap, pair(x.s, text(x.s))), "{"+x.want+": "+x.want+"}")
		wantText(t, node(api.DProgram, named(api.DVar, "x", text(x.s))), "var x = "+x.want+";\n")
		wantText(t, body(node(api.SThrow, text(x.s))), "func f() {\n  throw "+x.want+";\n}\n")
	}
	wantText(t, text(strings.Repeat("\n", 4096)), `"`+strings.Repeat(`\n`, 4096)+`"`)
	wantText(t, text(strings.Repeat("\xff", 4095)), `"`+strings.Repeat(`\xff`, 4095)+`"`)
	for c := range 256 {
		wantReference(t, text(string([]byte{'a', byte(c), 'b'})))
	}
}
