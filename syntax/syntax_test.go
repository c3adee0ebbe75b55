package syntax_test

import (
	"strings"
	"testing"

	"workflow/api"
	"workflow/syntax"
)

// Builders of trees.

func node(op int, kids ...api.Node) api.Node { return api.Node{Op: op, Kids: kids} }

func named(op int, name string, kids ...api.Node) api.Node {
	return api.Node{Op: op, Name: name, Kids: kids}
}

func variable(name string) api.Node { return named(api.XName, name) }

func number(n int) api.Node { return api.Node{Op: api.XInt, Int: n} }

func text(s string) api.Node { return api.Node{Op: api.XText, Text: s} }

func pair(key string, n api.Node) api.Node {
	return api.Node{Op: api.XPair, Text: key, Kids: []api.Node{n}}
}

func block(kids ...api.Node) api.Node { return node(api.SBlock, kids...) }

func handler(op int, name, parameter string, kids ...api.Node) api.Node {
	return api.Node{Op: op, Name: name, Text: parameter, Kids: kids}
}

// body returns a program with one function f without parameters.
func body(statements ...api.Node) api.Node {
	return node(api.DProgram, named(api.DFunc, "f", block(statements...)))
}

// brief cuts a text for a message.
func brief(s string) string {
	if len(s) > 300 {
		return s[:140] + " .. " + s[len(s)-140:]
	}
	return s
}

// parse calls Parse or Expr, by the rule of the grammar.
func parse(rule, src string) (api.Node, int, api.Errno) {
	if rule == "expr" {
		return syntax.Expr(src)
	}
	return syntax.Parse(src)
}

// wantTree checks that a text has a tree, by the rule of the grammar.
func wantTree(t *testing.T, rule, src string, want api.Node) {
	t.Helper()
	n, at, e := parse(rule, src)
	if at != 0 || e != api.OK || shape(n) != shape(want) {
		t.Errorf("%s %q: %s, %d, %d, want %s", rule, brief(src), brief(shape(n)), at, int(e), brief(shape(want)))
	}
}

// wantFault checks that a text has an error, by the rule of the grammar.
func wantFault(t *testing.T, rule, src string, at int, e api.Errno) {
	t.Helper()
	n, gotAt, gotE := parse(rule, src)
	if gotAt != at || gotE != e {
		t.Errorf("%s %q: %d, %d, want %d, %d", rule, brief(src), gotAt, int(gotE), at, int(e))
	}
	if shape(n) != shape(api.Node{}) || n.Kids != nil {
		t.Errorf("%s %q: an error with the tree %s", rule, brief(src), brief(shape(n)))
	}
}

// P8.1, P8.2: the examples of the chapter.
func TestExamples(t *testing.T) {
	wantTree(t, "expr", "a + b * 2", node(api.XAdd, variable("a"), node(api.XMul, variable("b"), number(2))))
	wantTree(t, "expr", "(a)", variable("a"))
	wantFault(t, "expr", "a +", 3, api.ErrSyntax)
	wantFault(t, "expr", "a < b < c", 6, api.ErrSyntax)
	wantTree(t, "program", "func f(x) { return x; }", node(api.DProgram, named(api.DFunc, "f", variable("x"), block(node(api.SReturn, variable("x"))))))
	wantTree(t, "program", "", node(api.DProgram))
	wantFault(t, "program", "func f() { select { } }", 20, api.ErrSyntax)
}

// P8.1: the programs of the document's examples are accepted.
func TestProgramsOfDocument(t *testing.T) {
	for _, src := range []string{
		`func main(x) { return x + 1; }`,
		`func main(x) { return await activity("a", x); }`,
		`func main() { let t = timer(5); select { case x = receive("s") { return x; } case t { return null; } } }`,
		`func main() { saga { undo a(1); undo a(2); throw "x"; } } func a(n) { await activity("undo", n); }`,
	} {
		want, _, _, _ := refParse("program", src)
		wantTree(t, "program", src, want)
	}
}

// P8.2: the trees of all kinds of expressions.
func TestExpressions(t *testing.T) {
	a, b, c := variable("a"), variable("b"), variable("c")
	for _, x := range []struct {
		src  string
		want api.Node
	}{
		{"null", node(api.XNull)}, {"true", node(api.XTrue)}, {"false", node(api.XFalse)},
		{"0", number(0)}, {"9223372036854775807", number(1<<63 - 1)}, {`""`, text("")}, {`"a\n\xff\""`, text("a\n\xff\"")},
		{"a", a}, {"_", variable("_")}, {"nulls", variable("nulls")}, {" \t\na\n", a}, {"((a))", a},
		{"[]", node(api.XList)}, {"[a]", node(api.XList, a)}, {"[a, b, [c]]", node(api.XList, a, b, node(api.XList, c))},
		{"{}", node(api.XMap)}, {`{"k": a}`, node(api.XMap, pair("k", a))}, {`{"": a, "k": {}, "k": b}`, node(api.XMap, pair("", a), pair("k", node(api.XMap)), pair("k", b))},
		{"f()", named(api.XCall, "f")}, {"f(a)", named(api.XCall, "f", a)}, {"f(a, g(b, c))", named(api.XCall, "f", a, named(api.XCall, "g", b, c))}, {"f(a or b)", named(api.XCall, "f", node(api.XOr, a, b))},
		{"go f()", named(api.XGo, "f")}, {"go f(a, b)", named(api.XGo, "f", a, b)}, {"await go f(a)", node(api.XAwait, named(api.XGo, "f", a))},
		{"await a", node(api.XAwait, a)}, {"await await a", node(api.XAwait, node(api.XAwait, a))}, {"await a.b", node(api.XAwait, named(api.XField, "b", a))}, {"(await a).b", named(api.XField, "b", node(api.XAwait, a))},
		{"not a", node(api.XNot, a)}, {"not not a", node(api.XNot, node(api.XNot, a))}, {"not a == b", node(api.XNot, node(api.XEq, a, b))}, {"(not a) == b", node(api.XEq, node(api.XNot, a), b)},
		{"not a and b", node(api.XAnd, node(api.XNot, a), b)}, {"not (a and b)", node(api.XNot, node(api.XAnd, a, b))}, {"a and not b", node(api.XAnd, a, node(api.XNot, b))}, {"a or not b and c", node(api.XOr, a, node(api.XAnd, node(api.XNot, b), c))},
		{"-a", node(api.XNeg, a)}, {"--1", node(api.XNeg, node(api.XNeg, number(1)))}, {"-a - -b", node(api.XSub, node(api.XNeg, a), node(api.XNeg, b))}, {"-a * b", node(api.XMul, node(api.XNeg, a), b)}, {"-(a * b)", node(api.XNeg, node(api.XMul, a, b))}, {"-a[b]", node(api.XNeg, node(api.XIndex, a, b))},
		{"a[b]", node(api.XIndex, a, b)}, {"a[b][c]", node(api.XIndex, node(api.XIndex, a, b), c)}, {"a[b[c]]", node(api.XIndex, a, node(api.XIndex, b, c))}, {"a.x.y", named(api.XField, "y", named(api.XField, "x", a))},
		{"f(a).x[b].y", named(api.XField, "y", node(api.XIndex, named(api.XField, "x", named(api.XCall, "f", a)), b))}, {`"s".x`, named(api.XField, "x", text("s"))}, {"1[0]", node(api.XIndex, number(1), number(0))}, {"[a][b]", node(api.XIndex, node(api.XList, a), b)}, {"{}.x", named(api.XField, "x", node(api.XMap))}, {"null.x", named(api.XField, "x", node(api.XNull))},
		{"a * b", node(api.XMul, a, b)}, {"a / b", node(api.XDiv, a, b)}, {"a % b", node(api.XMod, a, b)}, {"a + b", node(api.XAdd, a, b)}, {"a - b", node(api.XSub, a, b)}, {"a < b", node(api.XLt, a, b)}, {"a <= b", node(api.XLe, a, b)}, {"a > b", node(api.XGt, a, b)},
		{"a >= b", node(api.XGe, a, b)}, {"a == b", node(api.XEq, a, b)}, {"a != b", node(api.XNe, a, b)}, {"a and b", node(api.XAnd, a, b)}, {"a or b", node(api.XOr, a, b)},
		{"a - b - c", node(api.XSub, node(api.XSub, a, b), c)}, {"a - (b - c)", node(api.XSub, a, node(api.XSub, b, c))}, {"a / b * c", node(api.XMul, node(api.XDiv, a, b), c)}, {"a and b and c", node(api.XAnd, node(api.XAnd, a, b), c)}, {"a or b or c", node(api.XOr, node(api.XOr, a, b), c)},
		{"a or b and c", node(api.XOr, a, node(api.XAnd, b, c))}, {"a and b or c", node(api.XOr, node(api.XAnd, a, b), c)}, {"(a or b) and c", node(api.XAnd, node(api.XOr, a, b), c)}, {"(a < b) < c", node(api.XLt, node(api.XLt, a, b), c)}, {"a < (b < c)", node(api.XLt, a, node(api.XLt, b, c))},
		{"a + b < b * c", node(api.XLt, node(api.XAdd, a, b), node(api.XMul, b, c))}, {"a - b + c % a", node(api.XAdd, node(api.XSub, a, b), node(api.XMod, c, a))}, {"await a + b", node(api.XAdd, node(api.XAwait, a), b)},
	} {
		wantTree(t, "expr", x.src, x.want)
		wantTree(t, "program", "func f() { return "+x.src+"; }", body(node(api.SReturn, x.want)))
	}
}

// P8.1: the trees of all kinds of statements.
func TestStatements(t *testing.T) {
	a, b := variable("a"), variable("b")
	for _, x := range []struct {
		src  string
		want []api.Node
	}{
		{"", nil},
		{"let x = a;", []api.Node{named(api.SLet, "x", a)}}, {"x = a;", []api.Node{named(api.SSet, "x", a)}}, {"x = x == a;", []api.Node{named(api.SSet, "x", node(api.XEq, variable("x"), a))}},
		{"x == a;", []api.Node{node(api.SExpr, node(api.XEq, variable("x"), a))}}, {"a;", []api.Node{node(api.SExpr, a)}}, {"{};", []api.Node{node(api.SExpr, node(api.XMap))}}, {"[];", []api.Node{node(api.SExpr, node(api.XList))}}, {"go g(a);", []api.Node{node(api.SExpr, named(api.XGo, "g", a))}},
		{"a; b;", []api.Node{node(api.SExpr, a), node(api.SExpr, b)}},
		{"if a { }", []api.Node{node(api.SIf, a, block())}}, {"if {} { b; }", []api.Node{node(api.SIf, node(api.XMap), block(node(api.SExpr, b)))}},
		{"if a { } else { b; }", []api.Node{node(api.SIf, a, block(), block(node(api.SExpr, b)))}},
		{"if a { } else if b { }", []api.Node{node(api.SIf, a, block(), node(api.SIf, b, block()))}},
		{"if a { } else if b { } else if 1 { } else { a; } b;", []api.Node{node(api.SIf, a, block(), node(api.SIf, b, block(), node(api.SIf, number(1), block(), block(node(api.SExpr, a))))), node(api.SExpr, b)}},
		{"if a { if b { } else { } }", []api.Node{node(api.SIf, a, block(node(api.SIf, b, block(), block())))}},
		{"while a { b; }", []api.Node{node(api.SWhile, a, block(node(api.SExpr, b)))}}, {"while {} { }", []api.Node{node(api.SWhile, node(api.XMap), block())}},
		{"return;", []api.Node{node(api.SReturn)}}, {"return a;", []api.Node{node(api.SReturn, a)}}, {"throw a;", []api.Node{node(api.SThrow, a)}},
		{"try { a; } catch x { b; }", []api.Node{named(api.STry, "x", block(node(api.SExpr, a)), block(node(api.SExpr, b)))}},
		{"saga { a; }", []api.Node{node(api.SSaga, block(node(api.SExpr, a)))}}, {"undo g();", []api.Node{named(api.SUndo, "g")}}, {"undo g(a, b or 1);", []api.Node{named(api.SUndo, "g", a, node(api.XOr, b, number(1)))}},
		{"select { else { a; } }", []api.Node{node(api.SSelect, node(api.SElse, block(node(api.SExpr, a))))}},
		{"select { case a { } }", []api.Node{node(api.SSelect, named(api.SCase, "", a, block()))}}, {"select { case x = a { b; } }", []api.Node{node(api.SSelect, named(api.SCase, "x", a, block(node(api.SExpr, b))))}}, {"select { case x == a { } }", []api.Node{node(api.SSelect, named(api.SCase, "", node(api.XEq, variable("x"), a), block()))}},
		{"select { case x = a { } case {} { } else { } }", []api.Node{node(api.SSelect, named(api.SCase, "x", a, block()), named(api.SCase, "", node(api.XMap), block()), node(api.SElse, block()))}},
	} {
		wantTree(t, "program", "func f() { "+x.src+" }", body(x.want...))
		wantTree(t, "program", "func f() { saga { "+x.src+" } }", body(node(api.SSaga, block(x.want...))))
	}
}

// P8.1: the trees of all kinds of declarations.
func TestDeclarations(t *testing.T) {
	stop := node(api.SReturn)
	for _, x := range []struct {
		src  string
		want []api.Node
	}{
		{" \t\n", nil},
		{"var a = 1;", []api.Node{named(api.DVar, "a", number(1))}}, {"var a = -1;", []api.Node{named(api.DVar, "a", node(api.XNeg, number(1)))}}, {"var a = - 0;", []api.Node{named(api.DVar, "a", node(api.XNeg, number(0)))}},
		{`var a = "s"; var b = "";`, []api.Node{named(api.DVar, "a", text("s")), named(api.DVar, "b", text(""))}}, {"var a = true; var a = false; var b = null;", []api.Node{named(api.DVar, "a", node(api.XTrue)), named(api.DVar, "a", node(api.XFalse)), named(api.DVar, "b", node(api.XNull))}},
		{"func f() { }", []api.Node{named(api.DFunc, "f", block())}}, {"func f(a) { return; }", []api.Node{named(api.DFunc, "f", variable("a"), block(stop))}}, {"func f(a, b, a) { }", []api.Node{named(api.DFunc, "f", variable("a"), variable("b"), variable("a"), block())}},
		{"on signal s(x) { return; }", []api.Node{handler(api.DSignal, "s", "x", block(stop))}}, {"on query q(x) { }", []api.Node{handler(api.DQuery, "q", "x", block())}},
		{"on update u(x) { return; }", []api.Node{handler(api.DUpdate, "u", "x", block(stop))}}, {"on update u(x) check { } { return; }", []api.Node{handler(api.DUpdate, "u", "x", block(), block(stop))}},
		{"on query q(q) { } var a = 1; func f() { } on signal q(q) { }", []api.Node{handler(api.DQuery, "q", "q", block()), named(api.DVar, "a", number(1)), named(api.DFunc, "f", block()), handler(api.DSignal, "q", "q", block())}},
		{"func f(" + strings.Repeat("a, ", 20) + "b) { }", []api.Node{named(api.DFunc, "f", append(repeated(variable("a"), 20), variable("b"), block())...)}},
	} {
		wantTree(t, "program", x.src, node(api.DProgram, x.want...))
	}
}

// repeated returns a node n times.
func repeated(n api.Node, times int) []api.Node {
	var l []api.Node
	for range times {
		l = append(l, n)
	}
	return l
}

// P8.1: a select statement has 1 to MaxCases cases, or fewer and an else, which is the last branch.
func TestSelect(t *testing.T) {
	const start = "func f() { select { " // 20 bytes
	for cases := range 20 {
		l := repeated(named(api.SCase, "", variable("a"), block()), cases)
		src := start + strings.Repeat("case a { } ", cases)
		switch {
		case cases > 16:
			wantFault(t, "program", src+"} }", 20+16*11, api.ErrSyntax)
			wantFault(t, "program", src, 20+16*11, api.ErrSyntax)
			wantFault(t, "program", src+"else { } } }", 20+16*11, api.ErrSyntax)
			continue
		case cases == 0:
			wantFault(t, "program", src+"} }", 20, api.ErrSyntax)
		default:
			wantTree(t, "program", src+"} }", body(node(api.SSelect, l...)))
		}
		wantTree(t, "program", src+"else { } } }", body(node(api.SSelect, append(l, node(api.SElse, block()))...)))
		wantFault(t, "program", src+"else { } else { } } }", 20+11*cases+9, api.ErrSyntax)
		wantFault(t, "program", src+"else { } case a { } } }", 20+11*cases+9, api.ErrSyntax)
		wantFault(t, "program", src+"a { } }", 20+11*cases, api.ErrSyntax)
	}
	// The cases of one statement are counted without those of others, within it and behind it.
	inner := "select { " + strings.Repeat("case a { } ", 16) + "} "
	src := "func f() { select { " + strings.Repeat("case a { "+inner+"} ", 16) + "} " + inner + "}"
	innerTree := node(api.SSelect, repeated(named(api.SCase, "", variable("a"), block()), 16)...)
	outer := node(api.SSelect, repeated(named(api.SCase, "", variable("a"), block(innerTree)), 16)...)
	wantTree(t, "program", src, body(outer, innerTree))
}

// P8.1, P8.2: the first token that does not belong to the grammar, in many places.
func TestFaults(t *testing.T) {
	for _, x := range []struct {
		src string
		at  int
	}{
		{"", 0}, {" \t\n", 3}, {"a b", 2}, {"a 1", 2}, {"()", 1}, {"(a", 2}, {"a)", 1}, {"(a))", 3}, {"(a, b)", 2},
		{"[1,]", 3}, {"[,1]", 1}, {"[1 2]", 3}, {"[1,,2]", 3}, {"[", 1}, {"[1", 2}, {"[1,", 3}, {"[1)", 2}, {"[;]", 1},
		{`{"a": 1,}`, 8}, {`{,}`, 1}, {`{"a"}`, 4}, {`{"a" 1}`, 5}, {`{"a":}`, 5}, {`{"a": 1 "b": 2}`, 8}, {"{a: 1}", 1}, {"{1: 1}", 1}, {"{", 1}, {`{"a": 1`, 7}, {`{"a": 1]`, 7}, {`{"a": 1,, "b": 2}`, 8}, {"{[]}", 1},
		{"f(1,)", 4}, {"f(,)", 2}, {"f(1 2)", 4}, {"f(", 2}, {"f(1", 3}, {"f(1]", 3}, {"f(1)(2)", 4}, {"1(2)", 1}, {`"f"(2)`, 3}, {"(f)(2)", 3}, {"f[0](1)", 4}, {"a.f(1)", 3}, {"not(a)(b)", 6}, {"true()", 4},
		{"go", 2}, {"go f", 4}, {"go 1", 3}, {"go (f)()", 3}, {"go f.a()", 4}, {"go f()()", 6}, {"go f().a", 6}, {"go f()[0]", 6}, {"go go f()", 3}, {"go await f()", 3}, {"go -f()", 3}, {"go if()", 3},
		{"a.", 2}, {"a.1", 2}, {`a."b"`, 2}, {"a.if", 2}, {"a.null", 2}, {"a..b", 2}, {".a", 0}, {"a.(b)", 2}, {"a[", 2}, {"a[]", 2}, {"a[1", 3}, {"a[1,2]", 3}, {"a[1)", 3},
		{"a < b < c", 6}, {"a == b != c", 7}, {"a < b + c > d", 10}, {"not a < b < c", 10}, {"a and b < c == d", 12}, {"a < b and c < d < e", 16}, {"a <", 3}, {"< a", 0}, {"a = b", 2}, {"a == = b", 5}, {"a + == b", 4},
		{"a + not b", 4}, {"a < not b", 4}, {"a == not b", 5}, {"- not a", 2}, {"await not a", 6}, {"a * not b", 4}, {"not", 3}, {"not and a", 4}, {"a not b", 2}, {"a and", 5}, {"and a", 0}, {"a or or b", 5}, {"a and or b", 6},
		{"-", 1}, {"a -", 3}, {"+a", 0}, {"a + + b", 4}, {"* a", 0}, {"a - * b", 4}, {"--", 2}, {"await", 5}, {"await await", 11},
		{"let", 0}, {"if", 0}, {"check", 0}, {"a;", 1}, {"a = 1;", 2}, {":", 0}, {",", 0}, {"var", 0}, {"signal", 0},
	} {
		wantFault(t, "expr", x.src, x.at, api.ErrSyntax)
	}
	for _, x := range []struct {
		src string
		at  int
	}{
		{"x", 0}, {"1", 0}, {";", 0}, {"{ }", 0}, {"let x = 1;", 0}, {"on", 2}, {"on check f(x) { }", 3}, {"on x(x) { }", 3}, {"func f() { } }", 13}, {"func f() { } x", 13}, {"func f() { };", 12},
		{"var", 3}, {"var x", 5}, {"var x = ", 8}, {"var x = 1", 9}, {"var if = 1;", 4}, {"var 1 = 1;", 4}, {"var x 1;", 6}, {"var x == 1;", 6}, {"var x = y;", 8}, {"var x = -;", 9}, {"var x = - - 1;", 10}, {`var x = -"a";`, 9}, {"var x = -true;", 9}, {"var x = not true;", 8}, {"var x = [];", 8}, {"var x = (1);", 8}, {"var x = 1 + 1;", 10}, {"var x, y = 1;", 5},
		{"func", 4}, {"func f", 6}, {"func f(", 7}, {"func f()", 8}, {"func f() {", 10}, {"func if() { }", 5}, {"func f { }", 7}, {"func f(a,) { }", 9}, {"func f(,a) { }", 7}, {"func f(a b) { }", 9}, {"func f(a, 1) { }", 10}, {"func f(a, let) { }", 10}, {"func f((a)) { }", 7}, {"func f() return;", 9}, {"func f() { } { }", 13}, {"func (a) { }", 5}, {"func f(a] { }", 8},
		{"on signal", 9}, {"on signal s", 11}, {"on signal s()", 12}, {"on signal s() { }", 12}, {"on signal s(x, y) { }", 13}, {"on signal s(1) { }", 12}, {"on signal s(on) { }", 12}, {"on signal check(x) { }", 10}, {"on signal s(x) check { } { }", 15}, {"on query q(x) check { } { }", 14}, {"on query q(x)", 13}, {"on query q(x) { } { }", 18}, {"on query query(x) { }", 9},
		{"on update u(x) check { }", 24}, {"on update u(x) check { } check { } { }", 25}, {"on update u(x) { } check { }", 19}, {"on update u(x) { } { }", 19}, {"on update u(x) check", 20}, {"on update u() { }", 12}, {"on update update(x) { }", 10}, {"on on update u(x) { }", 3}, {"update u(x) { }", 0},
	} {
		wantFault(t, "program", x.src, x.at, api.ErrSyntax)
	}
	const start = "func f() { " // 11 bytes
	for _, x := range []struct {
		src string
		at  int
	}{
		{"let x; }", 5}, {"let = 1; }", 4}, {"let if = 1; }", 4}, {"let x = ; }", 8}, {"let x = 1 }", 10}, {"let x == 1; }", 6}, {"let x.y = 1; }", 5}, {"let 1 = 1; }", 4},
		{"x = ; }", 4}, {"x = 1 }", 6}, {"x.y = 1; }", 4}, {"x[0] = 1; }", 5}, {"(x) = 1; }", 4}, {"x = y = 1; }", 6}, {"1 = 1; }", 2}, {"x", 1}, {"x }", 2}, {"if = 1; }", 3}, {"check = 1; }", 0},
		{"if { } }", 7}, {"if a b }", 5}, {"if a; }", 4}, {"if a { } else b; }", 14}, {"if a { } else }", 14}, {"if a { } else else { } }", 14}, {"if a { } else { } else { } }", 18}, {"if (a { } }", 6}, {"else { } }", 0}, {"if a { } else if { } }", 21}, {"if a = 1 { } }", 5}, {"if a { } else while a { } }", 14},
		{"while { } }", 10}, {"while a; }", 7}, {"while }", 6}, {"while a { } else { } }", 12}, {"return }", 7}, {"return a }", 9}, {"return return; }", 7}, {"return a b; }", 9}, {"throw; }", 5}, {"throw }", 6}, {"throw a }", 8},
		{"try a; }", 4}, {"try { } }", 8}, {"try { } catch { } }", 14}, {"try { } catch x }", 16}, {"try { } catch (x) { } }", 14}, {"try { } catch if { } }", 14}, {"try { } catch x { } catch y { } }", 20}, {"catch x { } }", 0}, {"try { } catch x = 1; }", 16},
		{"saga; }", 4}, {"saga a; }", 5}, {"saga { }; }", 8}, {"undo g; }", 6}, {"undo g() }", 9}, {"undo 1(); }", 5}, {"undo g().x; }", 8}, {"undo (g()); }", 5}, {"undo -g(); }", 5}, {"undo g()(); }", 8}, {"undo go g(); }", 5}, {"undo; }", 4}, {"undo g(a,); }", 9}, {"undo g[0]; }", 6}, {"undo if(); }", 5}, {"go g; }", 4},
		{"select }", 7}, {"select a { } }", 7}, {"select { a; } }", 9}, {"select { case { } } }", 18}, {"select { case a } }", 16}, {"select { case a; { } } }", 15}, {"select { case x = { } } }", 22}, {"select { case if = a { } } }", 14}, {"select { case x = y = a { } } }", 20}, {"select { else a { } } }", 14}, {"select { else if a { } } }", 14}, {"select { case a { } else { }", 28}, {"select { } }", 9}, {"select { ; } }", 9}, {"select { case case a { } } }", 14}, {"case a { } }", 0}, {"select", 6}, {"select {", 8},
		{"; }", 0}, {"{ } }", 4}, {"func g() { } }", 0}, {"var x = 1; }", 0}, {"on signal s(x) { } }", 0}, {"a;; }", 2}, {"a, b; }", 1}, {"] }", 0}, {"} }", 2}, {"signal; }", 0}, {"let x = 1; } return;", 13},
	} {
		wantFault(t, "program", start+x.src, 11+x.at, api.ErrSyntax)
	}
}

// P8.1, P8.2: the error of a token counts more than one of the grammar, wherever both are.
func TestFaultsOfTokens(t *testing.T) {
	for _, x := range []struct {
		src string
		at  int
		e   api.Errno
	}{
		{"!", 0, api.ErrForm}, {"a !", 2, api.ErrForm}, {"a b !", 4, api.ErrForm}, {"! a b", 0, api.ErrForm}, {") 1a", 2, api.ErrForm}, {"1a )", 0, api.ErrForm}, {"a + 007", 4, api.ErrForm}, {"a < b < c #", 10, api.ErrForm},
		{") 9223372036854775808", 2, api.ErrRange}, {"-9223372036854775808", 1, api.ErrRange}, {") " + strings.Repeat("a", 65), 2, api.ErrName}, {`) "`, 2, api.ErrShort}, {`) "\q"`, 2, api.ErrForm}, {`) "` + strings.Repeat("a", 4097) + `"`, 2, api.ErrSize}, {"(! )", 1, api.ErrForm},
		{") " + strings.Repeat(" ", 16382), 0, api.ErrSyntax}, {") " + strings.Repeat(" ", 16383), 0, api.ErrSize}, {"a" + strings.Repeat(" ", 16384), 0, api.ErrSize}, {strings.Repeat("!", 16385), 0, api.ErrSize}, {") ! )", 2, api.ErrForm},
	} {
		wantFault(t, "expr", x.src, x.at, x.e)
		if x.src[0] != '-' && x.src[0] != 'a' {
			wantFault(t, "program", x.src, x.at, x.e)
		}
	}
	wantFault(t, "program", "func f() { x y !", 15, api.ErrForm)
	wantFault(t, "program", "func f() { 1a }", 11, api.ErrForm)
	wantFault(t, "program", "func f() { select { } } \"", 24, api.ErrShort)
	wantFault(t, "program", "x \x00", 2, api.ErrForm)
	wantTree(t, "expr", "a"+strings.Repeat(" ", 16383), variable("a"))
	wantTree(t, "program", strings.Repeat("\n", 16384), node(api.DProgram))
}
