package syntax_test

import (
	"math/rand"
	"strings"
	"testing"

	"workflow/api"
	"workflow/syntax"
	"workflow/token"
)

// compare checks a text against the reference. It reports whether another token may follow the text.
func compare(t *testing.T, rule, src string) bool {
	t.Helper()
	want, wantAt, wantE, ways := refParse(rule, src)
	if ways > 1 {
		t.Fatalf("%s %q has %d trees", rule, brief(src), ways)
	}
	n, at, e := parse(rule, src)
	if at != wantAt || e != wantE || shape(n) != shape(want) {
		t.Fatalf("%s %q: %s, %d, %d, want %s, %d, %d", rule, brief(src), brief(shape(n)), at, int(e), brief(shape(want)), wantAt, int(wantE))
	}
	right, rightExpr := syntax.Right(n), syntax.RightExpr(n)
	if right != (e == api.OK && rule != "expr") || rightExpr != (e == api.OK && rule == "expr") {
		t.Fatalf("%s %q: %t, %t, %d", rule, brief(src), right, rightExpr, int(e))
	}
	return e == api.OK || e == api.ErrSyntax && at == len(src)
}

// allTokens are all keywords and signs, and one token of each other kind.
func allTokens() []string {
	return append(strings.Fields(keywords+"== != <= >= ( ) { } [ ] , ; . : = < > + - * / %"), "a", "1", `"s"`)
}

// extend compares a text with up to depth tokens more.
func extend(t *testing.T, rule, src string, alphabet []string, depth int) {
	if depth == 0 || !compare(t, rule, src) {
		return
	}
	for _, x := range alphabet {
		if longer := src + " " + x; depth == 1 {
			compare(t, rule, longer)
		} else {
			extend(t, rule, longer, alphabet, depth-1)
		}
	}
}

// P8.2, P8.5: all texts of few tokens that may be the beginning of an expression, and all tokens behind them.
func TestShortExpressions(t *testing.T) {
	extend(t, "expr", "", allTokens(), 3)
	extend(t, "expr", "", strings.Fields("a 1 - < not and ( ) ["), 5)
	extend(t, "expr", "", strings.Fields("a ( ) [ ] , . go"), 6)
	extend(t, "expr", "", strings.Fields(`{ } "s" : , a`), 8)
	extend(t, "expr", "a", strings.Fields("a + * < or ( )"), 6)
	for _, src := range []string{"f(", "go f(", "a[", "[a,", `{"s":`, `{"s": a,`, "not", "a or", "a <", "a +", "a *", "-", "await", "(a", "a.", "f(a)", "go f(a)", "[a]", "{}", "not a", "a < a"} {
		extend(t, "expr", src, allTokens(), 2)
	}
}

// P8.1, P8.5: all texts of few tokens that may be the beginning of a program, a statement or a branch.
func TestShortPrograms(t *testing.T) {
	extend(t, "program", "", allTokens(), 6)
	for _, src := range []string{"func f(a", "func f() { }", "var a = 1;", "on signal s(a)", "on query q(a)", "on update u(a)", "on update u(a) check {", "on update u(a) check { }", "on update u(a) check { } {"} {
		extend(t, "program", src, allTokens(), 2)
	}
	for _, src := range []string{
		"", "let", "let a =", "let a = a", "a", "a =", "a ==", "if", "if a", "if a { }", "if a { } else", "if a { } else if", "if a { } else { }", "while a", "while a { }", "return", "return a", "throw", "throw a",
		"try", "try { }", "try { } catch", "try { } catch a", "try { } catch a { }", "saga", "saga { }", "undo", "undo a", "undo a(", "undo a()", "undo a(a", "a;", "select", "{", "go",
	} {
		extend(t, "program", "func f() { "+src, allTokens(), 2)
	}
	for _, src := range []string{"", "case", "case a", "case a =", "case a = a", "case a { }", "case a { } else", "case a { } else { }", "else", "else { }", "case a { } case", "case a { a", "else { a"} {
		extend(t, "program", "func f() { select { "+src, allTokens(), 2)
	}
	extend(t, "program", "func f() {", strings.Fields("if a { } else ;"), 8)
	extend(t, "program", "func f() { select", strings.Fields("case a { } else ="), 8)
	extend(t, "program", "", strings.Fields("on update check a ( ) { }"), 10)
	extend(t, "program", "", strings.Fields("func a ( ) , { }"), 8)
}

// samples use every rule of the grammar.
var samples = []string{
	"var a = 1; var b = -2; var c = \"s\";", "var a = true; var b = false; var c = null;", "func f() { }", "func f(a) { return a; } func g(a, b, c) { return; }",
	"on signal s(x) { a; }", "on query q(x) { return x; }", "on update u(x) { a; }", "on update u(x) check { throw x; } { return x; }",
	"func f() { let x = 1; x = 2; x == 3; }", "func f() { if a { b; } }", "func f() { if a { } else { b; } c; }", "func f() { if a { } else if b { } else if c { } else { } }",
	"func f() { while a { b; } }", "func f() { throw a; try { b; } catch e { c; } }", "func f() { saga { undo g(); undo h(1, a); } }",
	"func f() { select { case a { } } }", "func f() { select { case x = a { b; } case c { } else { d; } } }", "func f() { select { else { } } }", "func f() { let f = go g(1, 2); await f; }",
	"func f() { return [1, [], [a]]; }", "func f() { return {\"a\": 1, \"b\": {}}; }", "func f() { return g(1, h(), a).x[0].y; }", "func f() { return not a and b or c == d; }", "func f() { return -a * (b - c) / d % 2 + 1; }",
}

// compareChanges compares a text that is cut behind each of its tokens, with each token left out, doubled, replaced
// by every other one, and with every token before it.
func compareChanges(t *testing.T, rule, src string) {
	compare(t, rule, src)
	tokens, _, _ := token.Scan(src)
	for i, x := range tokens {
		before, this := src[:x.At], ""
		if i+1 < len(tokens) {
			this = src[x.At:tokens[i+1].At]
		}
		after := src[x.At+len(this):]
		compare(t, rule, before)
		compare(t, rule, before+after)
		compare(t, rule, before+this+" "+this+after)
		compare(t, rule, this+after)
		for _, other := range allTokens() {
			compare(t, rule, before+other+" "+after)
			compare(t, rule, before+other+" "+this+after)
		}
	}
}

// P8.1, P8.2, P8.5: every rule of the grammar with one token wrong.
func TestChangedSamples(t *testing.T) {
	for _, src := range samples {
		compareChanges(t, "program", src)
		if _, right, ok := strings.Cut(src, "return "); ok && strings.HasPrefix(src, "func f() { return ") {
			compareChanges(t, "expr", strings.TrimSuffix(right, "; }"))
		}
	}
}

var operators = strings.Fields("* / % + - < <= > >= == != and or")

// P8.2: every pair of operators, with and without parentheses, and every chain of three.
func TestOperators(t *testing.T) {
	for _, x := range operators {
		compare(t, "expr", "a "+x+" b")
		for _, y := range operators {
			compare(t, "expr", "a "+x+" b "+y+" c")
			compare(t, "expr", "(a "+x+" b) "+y+" c")
			compare(t, "expr", "a "+x+" (b "+y+" c)")
			compare(t, "expr", "(a "+x+" b "+y+" c)")
			compare(t, "expr", "f(a "+x+" b, c)[a "+y+" b]")
			for _, z := range operators {
				compare(t, "expr", "a "+x+" b "+y+" c "+z+" d")
			}
		}
	}
}

// P8.2: what stands before an operand, in front of and behind each operator and each pair of operators.
func TestPrefixes(t *testing.T) {
	prefixes := []string{"not ", "-", "await ", "not not ", "--", "- - -", "-not ", "not -", "await -", "-await ", "await not ", "not await "}
	for _, p := range prefixes {
		compare(t, "expr", p)
		compare(t, "expr", p+"a")
		compare(t, "expr", p+"(a)")
		compare(t, "expr", p+"a.b[c]")
		compare(t, "expr", p+"go f(a)")
		for _, q := range prefixes {
			compare(t, "expr", p+q+"a")
			compare(t, "expr", p+"("+q+"a)")
		}
		for _, x := range operators {
			compare(t, "expr", p+"(a "+x+" b)")
			compare(t, "expr", "a "+x+" ("+p+"b)")
			for _, y := range operators {
				compare(t, "expr", p+"a "+x+" b "+y+" c")
				compare(t, "expr", "a "+x+" "+p+"b "+y+" c")
				compare(t, "expr", "a "+x+" b "+y+" "+p+"c")
				compare(t, "expr", "("+p+"a) "+x+" b "+y+" c")
			}
		}
	}
	for n := range 36 {
		compare(t, "expr", strings.Repeat("-", n)+"a")
		compare(t, "expr", strings.Repeat("not ", n)+"a == "+strings.Repeat("-", n)+"b")
	}
}

// P8.1, P8.2: a keyword stands for no name, and a string literal for no token that it has the text of.
func TestWordsForNames(t *testing.T) {
	for _, word := range append(strings.Fields(keywords), `"a"`, "1", "=", strings.Repeat("w", 64), "If", "ifs", "_") {
		for _, src := range []string{"?", "?(1)", "go ?()", "a.?", "f(?)", "? + a", "not ?", `{"a": ?}`} {
			compare(t, "expr", strings.ReplaceAll(src, "?", word))
		}
		for _, src := range []string{
			"var ? = 1;", "func ?() { }", "func f(?) { }", "func f(a, ?) { }", "on signal ?(x) { }", "on signal s(?) { }", "on query ?(x) { }", "on query q(?) { }", "on update ?(x) { }", "on update u(?) { }", "on ?(x) { }", "on ? u(x) { }",
			"func f() { let ? = 1; }", "func f() { ? = 1; }", "func f() { try { } catch ? { } }", "func f() { undo ?(); }", "func f() { select { case ? = a { } } }", "func f() { select { case ? { } } }", "func f() { ?; }", "? f() { }",
		} {
			compare(t, "program", strings.ReplaceAll(src, "?", word))
		}
	}
	for _, x := range allTokens()[:50] {
		literal := token.Quote(x)
		for _, src := range []string{"?", "a ? a", "? a", "[a ? a]", "[a ?", "f ? a)", "(a ?", "{\"s\" ? a}", "a ? b", "{?: a}", "go f ?)"} {
			compare(t, "expr", strings.ReplaceAll(src, "?", literal))
		}
		for _, src := range []string{"?", "? f() { }", "func f ?) { }", "func f(a ? b) { }", "on ? u(x) { }", "on update u(x) ? { } { }", "func f() { a ? 1; }", "func f() { ? a; }", "func f() { select { ? a { } } }", "func f() { a ? }", "func f() ? }", "func f() { ?", "func f() { if a { } ? { } }", "func f() { ?; }", "var x ? 1;", "var x = ?;", "var x = ? 1;"} {
			compare(t, "program", strings.ReplaceAll(src, "?", literal))
		}
	}
}

// P8.1, P8.2, P8.5: texts of random tokens, most of which are put where they may stand.
func TestRandomTokens(t *testing.T) {
	random := rand.New(rand.NewSource(81))
	alphabet := allTokens()
	accepted := 0
	for range 1500 {
		rule, src := "expr", ""
		if random.Intn(2) == 0 {
			rule = "program"
		}
		for range random.Intn(20) {
			next := src
			for range 60 {
				next = src + " " + alphabet[random.Intn(len(alphabet))]
				if _, at, e, _ := refParse(rule, next); e == api.OK || at == len(next) {
					break
				}
			}
			src = next
			if !compare(t, rule, src) {
				break
			}
		}
		if _, _, e := parse(rule, src); e == api.OK {
			accepted++
		}
	}
	if accepted < 50 {
		t.Errorf("only %d texts are accepted", accepted)
	}
}
