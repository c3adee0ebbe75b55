package source_test

import (
	"strings"
	"testing"

	"workflow/api"
	"workflow/source"
	"workflow/syntax"
	"workflow/token"
)

func letters(n int) string { return strings.Repeat("a", n) }

// tokens returns the tokens of a text, which may be longer than MaxSource bytes: no token goes on in the next line.
func tokens(src string) []api.Token {
	var l []api.Token
	for line := range strings.Lines(src) {
		some, _, _ := token.Scan(line)
		l = append(l, some[:len(some)-1]...)
	}
	return l
}

// apart reports whether two tokens without a blank between them stay the same tokens.
func apart(one, two api.Token) bool {
	l, _, e := token.Scan(token.Spell([]api.Token{one}) + token.Spell([]api.Token{two}))
	return e == api.OK && len(l) == 3 && l[0].Text == one.Text && l[1].Text == two.Text
}

// spaced writes the tokens of a text with some blanks between them, and at least a space where one is needed.
func spaced(src string, blanks func() string) string {
	var b strings.Builder
	l := tokens(src)
	for i, t := range l {
		between := blanks()
		if i > 0 && between == "" && !apart(l[i-1], t) {
			between = " "
		}
		b.WriteString(between + token.Spell(l[i:i+1]))
	}
	return b.String() + blanks()
}

// packed writes the tokens of a text with as few blanks as possible.
func packed(src string) string { return spaced(src, func() string { return "" }) }

// wantLongest checks a tree with a text of MaxSource bytes, and one with a text of one byte more.
func wantLongest(t *testing.T, fits, exceeds api.Node) {
	t.Helper()
	most, more := reference{}.write(fits), reference{}.write(exceeds)
	if len(most) != 16384 || len(more) != 16385 {
		t.Fatalf("%d and %d bytes", len(most), len(more))
	}
	wantText(t, fits, most)
	wantRefused(t, exceeds, api.ErrSize)
	if fits.Op != api.DProgram {
		return
	}
	if s, at, e := source.Format(packed(most)); s != most || at != 0 || e != api.OK {
		t.Fatalf("Format of a text of MaxSource bytes: %q, %d, %d", brief(s), at, int(e))
	}
	if src := packed(more); len(src) > 16384 {
		t.Fatalf("%q is too long itself", brief(src))
	} else if s, at, e := source.Format(src); s != "" || at != 0 || e != api.ErrSize {
		t.Fatalf("Format of a text of one byte more: %q, %d, %d", brief(s), at, int(e))
	}
}

// wantLongestWith does so for trees whose text grows with the length of a string in them.
func wantLongestWith(t *testing.T, tree func(length int) api.Node) {
	t.Helper()
	length := 16384 - len(reference{}.write(tree(0)))
	wantLongest(t, tree(length), tree(length+1))
}

// P9.1, P9.2: texts of MaxSource bytes and of one byte more, from Expr.
func TestLongestExpressions(t *testing.T) {
	long := text(letters(4096))
	for _, place := range []place{
		func(n api.Node) api.Node { return n },
		func(n api.Node) api.Node { return node(api.XNeg, n) },
		func(n api.Node) api.Node { return node(api.XNot, n) },
		func(n api.Node) api.Node { return node(api.XNeg, node(api.XNot, n)) }, // ends with a parenthesis
		func(n api.Node) api.Node { return node(api.XOr, n, variable("xyz")) },
		func(n api.Node) api.Node { return node(api.XMul, number(1234), n) },
		func(n api.Node) api.Node { return named(api.XField, "x", n) },
		func(n api.Node) api.Node { return node(api.XIndex, n, number(1)) },
		func(n api.Node) api.Node { return named(api.XCall, "f", n, node(api.XList)) },
		func(n api.Node) api.Node { return named(api.XGo, "f", n) },
		func(n api.Node) api.Node { return node(api.XMap, pair("k", n), pair("l", node(api.XMap))) },
	} {
		wantLongestWith(t, func(length int) api.Node { return place(node(api.XList, long, long, long, text(letters(length)))) })
	}
	// Escaped bytes count as they are written.
	escaped := text(strings.Repeat("\xff", 4095) + "\n")
	wantLongest(t, escaped, node(api.XNeg, escaped))
	wantRefused(t, text(strings.Repeat("\xff", 4096)), api.ErrSize)
}

// P9.1, P9.2: texts of MaxSource bytes and of one byte more, from Print and Format.
func TestLongestPrograms(t *testing.T) {
	long := named(api.DVar, "x", text(letters(4096)))
	wantLongestWith(t, func(length int) api.Node {
		return node(api.DProgram, long, long, long, named(api.DVar, "x", text(letters(length))))
	})
	// Most bytes of these are blanks and line feeds.
	for _, place := range blockPlaces() {
		var statements []api.Node
		for len(reference{}.write(body(statements...))) < 15800 {
			statements = append(statements, place(block(node(api.SReturn), node(api.SExpr, variable("a")))))
		}
		for _, program := range programPlaces() {
			wantLongestWith(t, func(length int) api.Node {
				return program(block(append(statements[:len(statements):len(statements)], node(api.SThrow, text(letters(length))))...))
			})
		}
	}
}

// P9.1: Format of texts of MaxSource bytes and of one byte more.
func TestFormatOfLongTexts(t *testing.T) {
	for _, x := range []struct{ before, behind, want string }{
		{"", "", ""}, {"var x=1;", "", "var x = 1;\n"}, {"", "var x=1;", "var x = 1;\n"}, {"func f(){", "}", "func f() {\n}\n"}, {"func f(){a+", "(b);}", "func f() {\n  a + b;\n}\n"},
	} {
		for _, blank := range []string{" ", "\n", "\t"} {
			room := 16384 - len(x.before) - len(x.behind)
			if s, at, e := source.Format(x.before + strings.Repeat(blank, room) + x.behind); s != x.want || at != 0 || e != api.OK {
				t.Errorf("%q, %d, %d", s, at, int(e))
			}
			if s, at, e := source.Format(x.before + strings.Repeat(blank, room+1) + x.behind); s != "" || at != 0 || e != api.ErrSize {
				t.Errorf("%q, %d, %d", s, at, int(e))
			}
		}
	}
}

// P9.1: texts that would be much too long.
func TestMuchTooLong(t *testing.T) {
	long, list := text(strings.Repeat("\x00", 4096)), node(api.XList)
	program, globals := body(), node(api.DProgram)
	for range 1999 {
		list.Kids = append(list.Kids, long, named(api.XCall, letters(64)))
		globals.Kids = append(globals.Kids, named(api.DVar, letters(64), long))
	}
	for range 1998 {
		statements := &program.Kids[0].Kids[0].Kids
		*statements = append(*statements, node(api.SThrow, long))
	}
	for _, n := range []api.Node{list, node(api.XNot, list), globals, program} {
		if !syntax.Right(n) && !syntax.RightExpr(n) {
			t.Fatal("not right")
		}
		wantRefused(t, n, api.ErrSize)
	}
	for _, src := range []string{strings.Repeat("func f(){}", 1638), "func f(){" + strings.Repeat("saga{", 17) + strings.Repeat("a;", 1950) + strings.Repeat("}", 18), "func f(){" + strings.Repeat("if a{}", 1300) + "}"} {
		if s, at, e := source.Format(src); s != "" || at != 0 || e != api.ErrSize {
			t.Errorf("Format(%q) is %q, %d, %d", brief(src), brief(s), at, int(e))
		}
	}
}

// P9.1, P9.2: trees of MaxTree nodes, and of one node more.
func TestMostNodes(t *testing.T) {
	list, globals := node(api.XList), node(api.DProgram, named(api.DFunc, "f", variable("a"), block()))
	for range 3999 {
		list.Kids = append(list.Kids, number(1))
	}
	for range 1998 {
		globals.Kids = append(globals.Kids, named(api.DVar, "x", number(1)))
	}
	wantText(t, list, "[1"+strings.Repeat(", 1", 3998)+"]")
	wantRefused(t, globals, api.ErrSize) // the text
	globals.Kids = globals.Kids[:1400]
	wantReference(t, globals)
	list.Kids = append(list.Kids, number(1))
	wantRefused(t, list, api.ErrArg)
	wantRefused(t, body(node(api.SExpr, list)), api.ErrArg)
}

// P9.1, P9.2: trees of the depth MaxNesting, and of a greater one.
func TestDeepestTrees(t *testing.T) {
	for _, place := range append(exprPlaces(), statementPlaces()...) {
		n, before := variable("a"), variable("a")
		for syntax.Depth(n) <= 40 && (syntax.RightExpr(n) || syntax.Right(body(n))) {
			before, n = n, place(n)
		}
		if syntax.Depth(n) > 40 {
			wantReference(t, before)
			wantRefused(t, n, api.ErrArg)
			wantRefused(t, body(node(api.SExpr, before)), api.ErrArg)
		}
	}
	for _, place := range blockPlaces() {
		for _, program := range programPlaces() {
			n, before := block(), block()
			for syntax.Depth(program(n)) <= 40 {
				before, n = n, block(place(n))
			}
			wantReference(t, program(before))
			wantRefused(t, program(n), api.ErrArg)
		}
	}
	n, m := block(), block(node(api.SReturn))
	for range 18 {
		n, m = block(node(api.SSaga, n)), block(node(api.SSaga, m))
	}
	if depth := syntax.Depth(body(node(api.SReturn))); depth != 4 || syntax.Depth(node(api.DProgram, named(api.DFunc, "f", m))) != 40 {
		t.Error("another depth")
	}
	var want strings.Builder
	want.WriteString("func f() {\n")
	for i := range 18 {
		want.WriteString(strings.Repeat("  ", i+1) + "saga {\n")
	}
	want.WriteString(strings.Repeat("  ", 19) + "return;\n")
	for i := range 18 {
		want.WriteString(strings.Repeat("  ", 18-i) + "}\n")
	}
	wantText(t, node(api.DProgram, named(api.DFunc, "f", m)), want.String()+"}\n")
	wantText(t, node(api.DProgram, named(api.DFunc, "f", n)), strings.Replace(want.String(), strings.Repeat("  ", 19)+"return;\n", "", 1)+"}\n")
	wantRefused(t, node(api.DProgram, named(api.DFunc, "f", block(node(api.SSaga, m)))), api.ErrArg)
}
