package source_test

import (
	"strconv"
	"strings"
	"testing"

	"workflow/api"
	"workflow/source"
	"workflow/syntax"
	"workflow/token"
)

func node(op int, kids ...api.Node) api.Node { return api.Node{Op: op, Kids: kids} }

func named(op int, name string, kids ...api.Node) api.Node {
	return api.Node{Op: op, Name: name, Kids: kids}
}

func handler(op int, name, param string, blocks ...api.Node) api.Node {
	return api.Node{Op: op, Name: name, Text: param, Kids: blocks}
}

func variable(name string) api.Node { return api.Node{Op: api.XName, Name: name} }

func number(i int) api.Node { return api.Node{Op: api.XInt, Int: i} }

func text(s string) api.Node { return api.Node{Op: api.XText, Text: s} }

func pair(key string, n api.Node) api.Node {
	return api.Node{Op: api.XPair, Text: key, Kids: []api.Node{n}}
}

func block(statements ...api.Node) api.Node { return node(api.SBlock, statements...) }

// body returns a program with one function f that has some statements.
func body(statements ...api.Node) api.Node {
	return node(api.DProgram, named(api.DFunc, "f", block(statements...)))
}

// The chapter's levels, and what the grammar requires of the operands.
var levels = []struct {
	ops      []int
	level    int
	operands []int
}{
	{[]int{api.XOr}, 1, []int{1, 2}},
	{[]int{api.XAnd}, 2, []int{2, 3}},
	{[]int{api.XNot}, 3, []int{3}},
	{[]int{api.XLt, api.XLe, api.XGt, api.XGe, api.XEq, api.XNe}, 4, []int{5, 5}},
	{[]int{api.XAdd, api.XSub}, 5, []int{5, 6}},
	{[]int{api.XMul, api.XDiv, api.XMod}, 6, []int{6, 7}},
	{[]int{api.XNeg, api.XAwait}, 7, []int{7}},
	{[]int{api.XGo}, 7, nil},
	{[]int{api.XIndex}, 8, []int{8, 1}},
	{[]int{api.XField}, 8, []int{8}},
}

func refLevel(op int) (int, []int) {
	for _, l := range levels {
		for _, other := range l.ops {
			if other == op {
				return l.level, l.operands
			}
		}
	}
	return 8, nil
}

// How the other expressions and declarations are written: $ is the name, @ the text as a literal, & the text as it is,
// 0 and 1 are kids, # stands for all kids with commas between them.
var patterns = map[int]string{
	api.XNull: "null", api.XTrue: "true", api.XFalse: "false", api.XText: "@", api.XName: "$",
	api.XList: "[#]", api.XMap: "{#}", api.XPair: "@: 0", api.XCall: "$(#)", api.XGo: "go $(#)", api.XAwait: "await 0", api.XNot: "not 0", api.XNeg: "-0",
	api.XMul: "0 * 1", api.XDiv: "0 / 1", api.XMod: "0 % 1", api.XAdd: "0 + 1", api.XSub: "0 - 1",
	api.XLt: "0 < 1", api.XLe: "0 <= 1", api.XGt: "0 > 1", api.XGe: "0 >= 1", api.XEq: "0 == 1", api.XNe: "0 != 1", api.XAnd: "0 and 1", api.XOr: "0 or 1", api.XIndex: "0[1]", api.XField: "0.$",
	api.SLet: "let $ = 0;", api.SSet: "$ = 0;", api.SThrow: "throw 0;", api.SExpr: "0;", api.SUndo: "undo $(#);", api.SReturn: "return 0;",
	api.SIf: "if 0 ", api.SWhile: "while 0 ", api.SCase: "case $ = 0 ", api.STry: "try ", api.SSaga: "saga ", api.SElse: "else ",
	api.DVar: "var $ = 0;", api.DFunc: "func $(#) ", api.DSignal: "on signal $(&) ", api.DQuery: "on query $(&) ", api.DUpdate: "on update $(&) ",
}

// reference writes trees as the chapter says. If there is a function extra, it says for each expression whether one
// more pair of parentheses is written around it.
type reference struct{ extra func() bool }

// expr writes an expression where the grammar requires a level.
func (r reference) expr(n api.Node, least int) string {
	s := strconv.Itoa(n.Int)
	level, operands := refLevel(n.Op)
	if n.Op != api.XInt {
		s = r.fill(patterns[n.Op], n, n.Kids, operands)
	}
	if level < least || n.Op != api.XPair && r.extra != nil && r.extra() {
		return "(" + s + ")"
	}
	return s
}

func (r reference) fill(pattern string, n api.Node, kids []api.Node, operands []int) string {
	var b strings.Builder
	for _, c := range pattern {
		switch c {
		case '$':
			b.WriteString(n.Name)
		case '@':
			b.WriteString(token.Quote(n.Text))
		case '&':
			b.WriteString(n.Text)
		case '0', '1':
			i, least := int(c-'0'), 0
			if len(operands) > i {
				least = operands[i]
			}
			b.WriteString(r.expr(kids[i], least))
		case '#':
			for i, kid := range kids {
				b.WriteString(strings.Repeat(", ", min(i, 1)) + r.expr(kid, 0))
			}
		default:
			b.WriteRune(c)
		}
	}
	return b.String()
}

// joined puts lists of lines behind each other; the last line of one continues in the first line of the next.
func joined(lists ...[]string) []string {
	all := []string{""}
	for _, l := range lists {
		all[len(all)-1] += l[0]
		all = append(all, l[1:]...)
	}
	return all
}

// lines returns the lines of what is no expression.
func (r reference) lines(n api.Node) []string {
	switch n.Op {
	case api.SBlock:
		return r.braces("{", n.Kids)
	case api.SSelect:
		return r.braces("select {", n.Kids)
	}
	exprs, blocks := split(n.Kids)
	pattern, own := patterns[n.Op], r
	switch {
	case n.Op == api.SReturn && len(exprs) == 0:
		pattern = "return;"
	case n.Op == api.SCase && n.Name == "":
		pattern = "case 0 "
	case n.Op >= api.DProgram:
		own.extra = nil // there are no parentheses around constants and parameters
	}
	l := [][]string{{own.fill(pattern, n, exprs, nil)}}
	for i, kid := range blocks {
		l = append(l, []string{before(n, i, len(blocks))}, r.lines(kid))
	}
	return joined(l...)
}

// braces returns the lines of a block or a select statement.
func (r reference) braces(first string, kids []api.Node) []string {
	l := []string{first}
	for _, kid := range kids {
		for _, line := range r.lines(kid) {
			l = append(l, "  "+line)
		}
	}
	return append(l, "}")
}

// split returns the expressions and the blocks (or other statements) of kids.
func split(kids []api.Node) (exprs, blocks []api.Node) {
	for i, kid := range kids {
		if kid.Op >= api.SLet {
			return kids[:i], kids[i:]
		}
	}
	return kids, nil
}

// before returns what is written before the i-th of all blocks of a node.
func before(n api.Node, i, all int) string {
	switch {
	case n.Op == api.DUpdate && all == 2 && i == 0:
		return "check "
	case i == 0:
		return ""
	case n.Op == api.STry:
		return " catch " + n.Name + " "
	case n.Op == api.SIf:
		return " else "
	}
	return " "
}

// write writes a program or an expression.
func (r reference) write(n api.Node) string {
	if n.Op != api.DProgram {
		return r.expr(n, 0)
	}
	var b strings.Builder
	for _, kid := range n.Kids {
		b.WriteString(strings.Join(r.lines(kid), "\n") + "\n")
	}
	return b.String()
}

// canonical calls Print for a program and Expr for other trees.
func canonical(n api.Node) (string, api.Errno) {
	if n.Op == api.DProgram {
		return source.Print(n)
	}
	return source.Expr(n)
}

// parse calls the function of syntax that reads the text of a tree.
func parse(program bool, src string) (api.Node, int, api.Errno) {
	if program {
		return syntax.Parse(src)
	}
	return syntax.Expr(src)
}

func brief(s string) string {
	if len(s) > 300 {
		return s[:200] + " ... " + s[len(s)-80:]
	}
	return s
}

// wantText checks the canonical text of a right tree, and that this text has the tree.
func wantText(t *testing.T, n api.Node, want string) {
	t.Helper()
	got, e := canonical(n)
	if e != api.OK || got != want {
		t.Fatalf("%q, %d, want %q", brief(got), int(e), brief(want))
	}
	back, at, e := parse(n.Op == api.DProgram, got)
	if e != api.OK || at != 0 || !syntax.Same(back, n) {
		t.Fatalf("%q is not read back: %d, %d", brief(got), at, int(e))
	}
	if n.Op != api.DProgram {
		return
	}
	if again, at, e := source.Format(got); again != got || at != 0 || e != api.OK {
		t.Fatalf("Format(%q) is %q, %d, %d", brief(got), brief(again), at, int(e))
	}
}

// wantReference checks the canonical text of a right tree against the reference, and that it has no parentheses too many.
func wantReference(t *testing.T, n api.Node) string {
	t.Helper()
	want := reference{}.write(n)
	if len(want) > 16384 {
		wantRefused(t, n, api.ErrSize)
		return ""
	}
	wantText(t, n, want)
	wantNoneTooMany(t, n, want)
	return want
}

// wantNoneTooMany checks that a text does not have the same tree without any pair of its parentheses.
func wantNoneTooMany(t *testing.T, n api.Node, src string) {
	t.Helper()
	l, _, _ := token.Scan(src)
	var open []int
	for i, tok := range l {
		if tok.Kind != api.TokSign {
			continue
		}
		switch tok.Text {
		case "(":
			open = append(open, i)
		case ")":
			from := open[len(open)-1]
			open = open[:len(open)-1]
			if from > 0 && l[from-1].Kind == api.TokName {
				continue // those of a call, a function or a handler
			}
			b := []byte(src)
			b[l[from].At], b[tok.At] = ' ', ' '
			if other, _, e := parse(n.Op == api.DProgram, string(b)); e == api.OK && syntax.Same(other, n) {
				t.Fatalf("%q has the same tree without the parentheses at %d", brief(src), l[from].At)
			}
		}
	}
}

// wantRefused checks that a tree has no canonical text.
func wantRefused(t *testing.T, n api.Node, want api.Errno) {
	t.Helper()
	if s, e := canonical(n); s != "" || e != want {
		t.Fatalf("%q, %d, want the error %d", brief(s), int(e), int(want))
	}
}
