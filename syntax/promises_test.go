package syntax_test

import (
	"math/rand"
	"slices"
	"strings"
	"sync"
	"testing"

	"workflow/api"
	"workflow/syntax"
)

// P8.1, P8.2, P8.3, P8.5: each tree that is right is the tree of its text, with as few parentheses as possible or more.
func TestWrittenTrees(t *testing.T) {
	g := grower{rand.New(rand.NewSource(85))}
	for i := range 6000 {
		n, rule := g.any(2 + g.random.Intn(10))
		if syntax.Right(n) != (rule == "program") || syntax.RightExpr(n) != (rule == "expr") {
			t.Fatalf("%s: %t, %t", brief(shape(n)), syntax.Right(n), syntax.RightExpr(n))
		}
		for _, w := range []writer{{}, {g.random}} {
			if src := w.text(n); len(src) <= api.MaxSource {
				wantTree(t, rule, src, n)
				if i < 600 && len(src) < 2000 {
					compare(t, rule, src)
				}
			}
		}
	}
}

// P8.6: two programs, one behind the other, have the declarations of both.
func TestJoinedPrograms(t *testing.T) {
	check := func(one, two string) {
		a, _, e := syntax.Parse(one)
		b, _, f := syntax.Parse(two)
		if e != api.OK || f != api.OK {
			t.Fatalf("%q, %q: %d, %d", brief(one), brief(two), int(e), int(f))
		}
		if src := one + " " + two; len(src) <= 16384 && syntax.Size(a)+syntax.Size(b) <= 4001 {
			wantTree(t, "program", src, node(api.DProgram, slices.Concat(a.Kids, b.Kids)...))
		} else {
			wantFault(t, "program", src, 0, api.ErrSize)
		}
	}
	texts := append(slices.Clone(samples), "", " ", "\n", "var a=1;", strings.Repeat("var a=1;", 1000), strings.Repeat("var a=1;", 999), strings.Repeat(" ", 16384), strings.Repeat(" ", 16383), "func f(){"+strings.Repeat("a;", 1998)+"}")
	for _, one := range texts {
		for _, two := range texts {
			check(one, two)
		}
	}
	g := grower{rand.New(rand.NewSource(86))}
	for range 1000 {
		check(writer{g.random}.text(g.program(8)), writer{g.random}.text(g.program(8)))
	}
}

// P8.6: parentheses around an expression change nothing.
func TestParentheses(t *testing.T) {
	check := func(src string) {
		n, _, e := syntax.Expr(src)
		if e != api.OK {
			t.Fatalf("%q: %d", brief(src), int(e))
		}
		for _, outer := range []string{"(?)", "( ?\n)", "((?))"} {
			if s := within(outer, src); len(s) <= 16384 {
				wantTree(t, "expr", s, n)
			} else {
				wantFault(t, "expr", s, 0, api.ErrSize)
			}
		}
	}
	for _, src := range []string{"a", "(a)", " a ", "not a", "a or b", "a < b", "-1", "await go f()", "{}", "[]", "f()", "a.b[c]", "[0" + strings.Repeat(",0", 3998) + "]", around(39, "-", "a", ""), "a" + strings.Repeat(" ", 16379), "a" + strings.Repeat(" ", 16381), "a" + strings.Repeat(" ", 16382), "a" + strings.Repeat(" ", 16383)} {
		check(src)
	}
	g := grower{rand.New(rand.NewSource(87))}
	for range 2000 {
		check(writer{g.random}.text(g.expr(7)))
	}
}

// lists calls a function for the list of kids of each node of a tree.
func lists(n *api.Node, f func(*[]api.Node)) {
	f(&n.Kids)
	for i := range n.Kids {
		lists(&n.Kids[i], f)
	}
}

// R5: no two lists of one result share memory, even behind their ends, and no two results do.
func TestMemoryOfResults(t *testing.T) {
	for _, src := range samples {
		one, _, _ := syntax.Parse(src)
		two, _, _ := syntax.Parse(src)
		want := shape(one)
		// What is appended to one list must not show up behind or within any other.
		lists(&one, func(l *[]api.Node) {
			for k := len(*l); k < cap(*l); k++ {
				(*l)[:cap(*l)][k] = node(99)
			}
		})
		if shape(one) != want || shape(two) != want {
			t.Fatalf("%q: lists share memory", src)
		}
		seen := map[*api.Node]bool{}
		for _, tree := range []*api.Node{&one, &two} {
			lists(tree, func(l *[]api.Node) {
				for k := range cap(*l) {
					if place := &(*l)[:cap(*l)][k]; seen[place] {
						t.Fatalf("%q: two lists share memory", src)
					} else {
						seen[place] = true
					}
				}
			})
		}
		lists(&one, func(l *[]api.Node) {
			for k := range *l {
				(*l)[k].Name += "!"
			}
		})
		three, _, _ := syntax.Parse(src)
		if shape(two) != want || shape(three) != want {
			t.Fatalf("%q: a result changed with another one", src)
		}
	}
}

// R5: the functions do not change their arguments.
func TestArgumentsStay(t *testing.T) {
	g := grower{rand.New(rand.NewSource(88))}
	for range 500 {
		n, _ := g.any(8)
		lists(&n, func(l *[]api.Node) { *l = append(*l, node(99), node(98))[:len(*l)] })
		m, _ := g.any(3)
		before, other := shape(n), shape(m)
		syntax.Right(n)
		syntax.RightExpr(n)
		syntax.Size(n)
		syntax.Depth(n)
		syntax.Same(n, m)
		syntax.Same(n, n)
		lists(&n, func(l *[]api.Node) {
			if behind := (*l)[:len(*l)+2]; behind[len(*l)].Op != 99 || behind[len(*l)+1].Op != 98 {
				t.Fatal("something behind a list has changed")
			}
		})
		if shape(n) != before || shape(m) != other {
			t.Fatalf("%s has become %s", before, shape(n))
		}
	}
}

// R9: concurrent calls have the results that the calls have alone.
func TestConcurrentCalls(t *testing.T) {
	type result struct {
		shape string
		at    int
		e     api.Errno
	}
	texts := append(slices.Clone(samples), "a", "a or b", "a +", "[!]", "", around(41, "[", "", "]"), "[0"+strings.Repeat(",0", 4000)+"]", "func f() { select { } }", around(3000, "(", "a", ")"))
	all := func() []result {
		var l []result
		for _, src := range texts {
			for _, rule := range []string{"expr", "program"} {
				n, at, e := parse(rule, src)
				l = append(l, result{shape(n), at, e})
			}
		}
		return l
	}
	want := all()
	var group sync.WaitGroup
	for range 8 {
		group.Go(func() {
			if !slices.Equal(all(), want) {
				t.Error("a concurrent call has another result")
			}
		})
	}
	group.Wait()
}
