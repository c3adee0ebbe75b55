package source_test

import (
	"math/rand"
	"slices"
	"strings"
	"sync"
	"testing"

	"workflow/api"
	"workflow/source"
	"workflow/syntax"
)

func wantFormat(t *testing.T, src, want string) {
	t.Helper()
	if s, at, e := source.Format(src); s != want || at != 0 || e != api.OK {
		t.Fatalf("Format(%q) is %q, %d, %d, want %q", brief(src), brief(s), at, int(e), brief(want))
	}
}

func wantFault(t *testing.T, src string, at int, e api.Errno) {
	t.Helper()
	if s, gotAt, got := source.Format(src); s != "" || gotAt != at || got != e {
		t.Fatalf("Format(%q) is %q, %d, %d, want %d, %d", brief(src), brief(s), gotAt, int(got), at, int(e))
	}
}

// P9.1: the text of each kind of declaration and statement.
func TestFormat(t *testing.T) {
	for _, x := range []struct{ src, want string }{
		{"", ""}, {" ", ""}, {"\n\t \n", ""}, {"var x=1;", "var x = 1;\n"}, {"var\nx\n=\n-\n1\n;", "var x = -1;\n"}, {`var x="\x41\x0a\x09\x22\x5c\x7e\x7f";`, `var x = "A\n\t\"\\~\x7f";` + "\n"},
		{"var a=true;var b=false;var c=null;", "var a = true;\nvar b = false;\nvar c = null;\n"}, {"func f(){}", "func f() {\n}\n"}, {"func f(a,b,c){}\n\n\nfunc g(){}", "func f(a, b, c) {\n}\nfunc g() {\n}\n"},
		{"on signal s(p){}on query q(p){}on update u(p){}on update u(p)check{}{}", "on signal s(p) {\n}\non query q(p) {\n}\non update u(p) {\n}\non update u(p) check {\n} {\n}\n"},
		{"func f(){let x=1;x=(2);return;return(x);throw[x];x;undo g();undo g(x,(1));}", "func f() {\n  let x = 1;\n  x = 2;\n  return;\n  return x;\n  throw [x];\n  x;\n  undo g();\n  undo g(x, 1);\n}\n"},
		{"func f(){if(a){}if(a){}else{}if a{}else if b{}else if c{}else{}while(a){saga{try{}catch e{}}}}", "func f() {\n  if a {\n  }\n  if a {\n  } else {\n  }\n  if a {\n  } else if b {\n  } else if c {\n  } else {\n  }\n  while a {\n    saga {\n      try {\n      } catch e {\n      }\n    }\n  }\n}\n"},
		{"func f(){select{case a{}case b=c{x;}else{}}select{else{}}select{case(a){}}}", "func f() {\n  select {\n    case a {\n    }\n    case b = c {\n      x;\n    }\n    else {\n    }\n  }\n  select {\n    else {\n    }\n  }\n  select {\n    case a {\n    }\n  }\n}\n"},
		{`func f(){return{"a":[1,2,{}],"":-(-1)};{};[];}`, "func f() {\n  return {\"a\": [1, 2, {}], \"\": --1};\n  {};\n  [];\n}\n"},
		{"func f(){return((a or(b))or((c)));return(a and b)or c and not(d);return(a or b)and c;return not(not(a));}", "func f() {\n  return a or b or c;\n  return a and b or c and not d;\n  return (a or b) and c;\n  return not not a;\n}\n"},
	} {
		wantFormat(t, x.src, x.want)
		wantFormat(t, x.want, x.want)
	}
}

// P9.1: texts that have an error.
func TestFormatOfErrors(t *testing.T) {
	for _, x := range []struct {
		src string
		at  int
		e   api.Errno
	}{
		{"func f(", 7, api.ErrSyntax}, {"a", 0, api.ErrSyntax}, {"1", 0, api.ErrSyntax}, {" ;", 1, api.ErrSyntax}, {"var x = a;", 8, api.ErrSyntax}, {"var x = (1);", 8, api.ErrSyntax}, {"var x = 1", 9, api.ErrSyntax}, {"var if = 1;", 4, api.ErrSyntax}, {"var x = - -1;", 10, api.ErrSyntax},
		{"func f() { select { } }", 20, api.ErrSyntax}, {"func f() { a < b < c; }", 17, api.ErrSyntax}, {"func f() { - not a; }", 13, api.ErrSyntax}, {"func f() { } }", 13, api.ErrSyntax}, {"func f((a)) { }", 7, api.ErrSyntax}, {"on signal s() { }", 12, api.ErrSyntax}, {"func f() { go f().x; }", 17, api.ErrSyntax}, {"func f() { { } }", 15, api.ErrSyntax},
		{"!", 0, api.ErrForm}, {"func f() { } #", 13, api.ErrForm}, {"var x = 01;", 8, api.ErrForm}, {"var x = 1a;", 8, api.ErrForm}, {"var x = \"\n\";", 8, api.ErrForm}, {`var x = "\q";`, 8, api.ErrForm}, {"func f() { a // a; }", 14, api.ErrSyntax}, {"var x = 1;\r\n", 10, api.ErrForm},
		{`var x = "a`, 8, api.ErrShort}, {"var " + strings.Repeat("n", 65) + " = 1;", 4, api.ErrName}, {"var x = 9223372036854775808;", 8, api.ErrRange}, {`var x = "` + strings.Repeat("a", 4097) + `";`, 8, api.ErrSize},
		{"func f(){" + strings.Repeat("a;", 1999) + "}", 0, api.ErrSize}, {"func f(){" + strings.Repeat("a;", 1999) + "}}", 4008, api.ErrSyntax}, {"func f(){" + strings.Repeat("saga{", 19) + strings.Repeat("}", 20), 0, api.ErrDepth}, {"func f(){return " + strings.Repeat("-", 36) + "a;}", 0, api.ErrDepth}, {strings.Repeat("!", 16385), 0, api.ErrSize},
	} {
		wantFault(t, x.src, x.at, x.e)
	}
}

// P9.1: Format of a text is the canonical text of its tree, or has the error of syntax.Parse.
func TestFormatOfChangedTexts(t *testing.T) {
	g := grower{rand.New(rand.NewSource(92))}
	good, bad := 0, 0
	pieces := []string{"", " ", "(", ")", "a", "1", ";", "{", "}", "-", "not ", "if ", "\"", ",", "=", "!", "x=", "\x00", "[", "]", "\"\\x41\""}
	for range 20000 {
		src := reference{}.write(g.program(4 + g.random.Intn(4)))
		from := g.random.Intn(len(src) + 1)
		to := min(len(src), from+g.random.Intn(3))
		src = src[:from] + pieces[g.random.Intn(len(pieces))] + src[to:]
		n, at, e := syntax.Parse(src)
		if e != api.OK {
			wantFault(t, src, at, e)
			bad++
			continue
		}
		wantFormat(t, src, reference{}.write(n))
		good++
	}
	if good < 1000 || bad < 1000 {
		t.Errorf("%d texts without an error, %d with one", good, bad)
	}
}

// P9.1, P9.2, P9.3: random trees.
func TestRandomTrees(t *testing.T) {
	g := grower{rand.New(rand.NewSource(93))}
	for range 6000 {
		wantReference(t, g.any(2+g.random.Intn(9)))
	}
}

// P9.3: different trees have different texts, and equal ones have equal texts.
func TestDifferentTrees(t *testing.T) {
	g := grower{rand.New(rand.NewSource(94))}
	seen := map[string]api.Node{}
	again := 0
	check := func(n api.Node) {
		s, e := canonical(n)
		if e != api.OK {
			return
		}
		if other, ok := seen[s]; ok && !syntax.Same(n, other) {
			t.Fatalf("two trees have the text %q", brief(s))
		} else if ok {
			again++
		}
		seen[s] = n
	}
	for range 60000 {
		check(g.any(2 + g.random.Intn(4)))
	}
	for _, one := range exprPlaces() {
		for _, two := range exprPlaces() {
			check(one(two(variable("a"))))
		}
		for _, two := range statementPlaces() {
			check(body(two(one(variable("a")))))
		}
	}
	if len(seen) < 10000 || again < 100 {
		t.Errorf("%d texts, %d again", len(seen), again)
	}
}

// P9.3, P9.4: blanks, and parentheses that do not change the tree, change nothing; other parentheses do.
func TestOtherBlanksAndParentheses(t *testing.T) {
	g := grower{rand.New(rand.NewSource(95))}
	blanks := func() string {
		return []string{"", " ", "\n", "\t", "  ", " \n\t ", "\n\n"}[g.random.Intn(7)]
	}
	for range 6000 {
		n := g.program(4 + g.random.Intn(6))
		want := reference{}.write(n)
		if len(want) > 16384 {
			continue
		}
		wrapped := reference{func() bool { return g.random.Intn(6) == 0 }}.write(n)
		for _, src := range []string{want, packed(want), spaced(want, blanks), wrapped, packed(wrapped), spaced(wrapped, blanks)} {
			if len(src) > 16384 {
				continue
			}
			if other, at, e := syntax.Parse(src); e != api.OK || !syntax.Same(n, other) {
				t.Fatalf("%q has another tree: %d, %d", brief(src), at, int(e))
			}
			wantFormat(t, src, want)
		}
	}
	for range 6000 {
		n := g.expr(3 + g.random.Intn(6))
		want := reference{}.write(n)
		wrapped := reference{func() bool { return g.random.Intn(3) == 0 }}.write(n)
		if src := spaced(wrapped, blanks); len(src) <= 16384 {
			other, at, e := syntax.Expr(src)
			if e != api.OK {
				t.Fatalf("%q: %d, %d", brief(src), at, int(e))
			}
			wantText(t, other, want)
		}
	}
}

// P9.4: a few pairs of texts with the same tree, and some whose parentheses change it.
func TestSameAndOtherTexts(t *testing.T) {
	for _, x := range []struct {
		one, two string
		same     bool
	}{
		{"a or (b and c)", "a or b and c", true}, {"(a or b) and c", "a or b and c", false}, {"(a)", "a", true}, {"((a+b))", "a+b", true}, {"f((a),(b))", "f(a,b)", true}, {"(f(a))", "f(a)", true}, {"([a])[(0)]", "[a][0]", true}, {"(a.b).c", "a.b.c", true},
		{"(a-b)-c", "a-b-c", true}, {"a-(b-c)", "a-b-c", false}, {"a+(b+c)", "a+b+c", false}, {"a*(b*c)", "a*b*c", false}, {"a and (b and c)", "a and b and c", false}, {"-(a.b)", "-a.b", true}, {"(-a).b", "-a.b", false}, {"await (f[0])", "await f[0]", true}, {"(await f)[0]", "await f[0]", false},
		{"not (a<b)", "not a<b", true}, {"(not a)<b", "not a<b", false}, {"(not a) and b", "not a and b", true}, {"not (a and b)", "not a and b", false}, {"-(-a)", "--a", true}, {"-(a)*b", "-a*b", true}, {"-(a*b)", "-a*b", false}, {"(go f())+1", "go f()+1", true},
		{`"\x61\n"`, `"a\x0a"`, true}, {`"a"`, `"a "`, false}, {"1", `"1"`, false}, {"0", "-0", false}, {"a", "a()", false}, {"[a]", "[[a]]", false}, {"{}", "[]", false}, {`{"a":1,"b":2}`, `{"b":2,"a":1}`, false}, {"a.b", `a["b"]`, false}, {"null", "false", false}, {"a", "A", false},
	} {
		for _, outer := range []string{"func f(){return ?;}", "func f(){if ? {}}", "func f(){select{case x=? {}}}", "on query q(a){?;}", "func f(){undo f(?);}"} {
			one, _, e := source.Format(strings.Replace(outer, "?", x.one, 1))
			two, _, f := source.Format(strings.Replace(outer, "?", x.two, 1))
			if e != api.OK || f != api.OK || (one == two) != x.same {
				t.Errorf("%q, %d, and %q, %d", one, int(e), two, int(f))
			}
		}
	}
	for _, x := range []struct{ one, two string }{
		{"func f(){if a{}else{if b{}}}", "func f(){if a{}else if b{}}"}, {"on update u(p)check{}{}", "on update u(p){}"}, {"func f(){return null;}", "func f(){return;}"}, {"func f(){select{case a{}else{}}}", "func f(){select{case a{}}}"}, {"func f(){a;}", "func f(){let a=a;}"}, {"func f(){select{case a=b{}}}", "func f(){select{case a==b{}}}"},
		{"func f(){a=b;}", "func f(){a==b;}"}, {"var a=1;var b=1;", "var b=1;var a=1;"}, {"func f(){}", "func f(a){}"}, {"on signal s(a){}", "on query s(a){}"}, {"on signal s(a){}", "on signal a(s){}"}, {"func f(){saga{}}", "func f(){saga{saga{}}}"}, {"func f(){try{a;}catch e{}}", "func f(){try{}catch e{a;}}"}, {"", "func f(){}"},
	} {
		one, _, e := source.Format(x.one)
		two, _, f := source.Format(x.two)
		if e != api.OK || f != api.OK || one == two {
			t.Errorf("%q, %d, and %q, %d", one, int(e), two, int(f))
		}
	}
}

// R5, R6, R9: trees stay as they are, what is behind the ends of lists does not count, and empty lists are like nil.
func TestTreesStay(t *testing.T) {
	g := grower{rand.New(rand.NewSource(96))}
	for range 500 {
		n := g.any(8)
		want, e := canonical(n)
		before := copied(n, nil)
		each(&n, func(m *api.Node) { m.Kids = append(slices.Clone(m.Kids), node(99), node(98))[:len(m.Kids)] })
		for _, tree := range []api.Node{n, copied(n, nil), copied(n, []api.Node{})} {
			if s, f := canonical(tree); s != want || f != e {
				t.Fatalf("%q, %d, want %q", brief(s), int(f), brief(want))
			}
		}
		each(&n, func(m *api.Node) {
			if behind := m.Kids[:len(m.Kids)+2]; behind[len(m.Kids)].Op != 99 || behind[len(m.Kids)+1].Op != 98 {
				t.Fatal("something behind a list has changed")
			}
		})
		if !syntax.Same(n, before) {
			t.Fatalf("the tree of %q has changed", brief(want))
		}
	}
}

// R9: concurrent calls have the results that the calls have alone.
func TestConcurrentCalls(t *testing.T) {
	g := grower{rand.New(rand.NewSource(97))}
	var trees []api.Node
	for range 50 {
		trees = append(trees, g.any(7))
	}
	all := func() []string {
		var l []string
		for _, n := range trees {
			s, _ := canonical(n)
			again, _, _ := source.Format(s)
			l = append(l, s, again)
		}
		return l
	}
	want := all()
	var group sync.WaitGroup
	for range 8 {
		group.Go(func() {
			if !slices.Equal(all(), want) {
				t.Error("a concurrent call has another result")
			}
		})
	}
	group.Wait()
}
