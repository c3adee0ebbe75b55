package syntax_test

import (
	"strings"
	"testing"

	"workflow/api"
	"workflow/syntax"
)

// around repeats an opening part, something in the middle, and a closing part.
func around(n int, opening, middle, closing string) string {
	return strings.Repeat(opening, n) + middle + strings.Repeat(closing, n)
}

// within puts a text behind a prefix and before a suffix.
func within(outer, s string) string { return strings.Replace(outer, "?", s, 1) }

// P8.1, P8.2, P8.5: MaxTree nodes are allowed, one more is ErrSize.
func TestLimitOfSize(t *testing.T) {
	for _, x := range []struct {
		rule, outer, piece string
		most               int // how many pieces are allowed
	}{
		{"expr", "[0?]", ",0", 3998},                            // XList, 3999 XInt
		{"expr", "f(0?)", ",0", 3998},                           // XCall, 3999 XInt
		{"expr", "go f(0?)", ",0", 3998},                        // XGo, 3999 XInt
		{"expr", `{"":0?}`, `,"":0`, 1998},                      // XMap, 1999 pairs with 3998 nodes
		{"expr", `{"":-0?}`, `,"":0`, 1998},                     // one more
		{"program", "func f(a?){}", ",a", 3996},                 // DProgram, DFunc, 3997 XName, SBlock
		{"program", "?", "var a=0;", 1999},                      // DProgram, 1999 times DVar and XInt
		{"program", "?", "var a=-0;", 1333},                     // DProgram, 1333 times DVar, XNeg and XInt
		{"program", "func f(){?}", "a;", 1998},                  // DProgram, DFunc, SBlock, 1998 times SExpr and XName
		{"program", "func f(){return;?}", "a;", 1998},           // one more
		{"program", "func f(){?}", "a=0;", 1998},                // SSet and XInt
		{"program", "func f(){?}", "undo f(a,a,a);", 999},       // SUndo and three XName
		{"program", "func f(){?}", "if a{}", 1332},              // SIf, XName and SBlock
		{"program", "func f(){?}", "saga{}", 1998},              // SSaga and SBlock
		{"program", "on update u(x)check{}{?}", "a or a;", 999}, // DProgram, DUpdate, 2 SBlock, 999 times SExpr, XOr and 2 XName
	} {
		for n := x.most - 1; n <= x.most+1; n++ {
			src := within(x.outer, strings.Repeat(x.piece, n))
			if len(src) > 16384 {
				wantFault(t, x.rule, src, 0, api.ErrSize)
				continue
			}
			if n > x.most {
				wantFault(t, x.rule, src, 0, api.ErrSize)
				wantFault(t, x.rule, src+")", len(src), api.ErrSyntax)
				wantFault(t, x.rule, src+"!", len(src), api.ErrForm)
				continue
			}
			tree, at, e := parse(x.rule, src)
			if at != 0 || e != api.OK || !syntax.Right(tree) && !syntax.RightExpr(tree) {
				t.Errorf("%q: %d, %d", brief(src), at, int(e))
			}
			if size, _ := refMeasure(tree); n == x.most && size < 3998 || syntax.Size(tree) != size {
				t.Errorf("%q has %d nodes, Size is %d", brief(src), size, syntax.Size(tree))
			}
		}
	}
}

// P8.1, P8.2, P8.5: the depth MaxNesting is allowed, a greater one is ErrDepth.
func TestLimitOfDepth(t *testing.T) {
	const function, returned = "func f(){?}", "func f(){return ?;}"
	for _, x := range []struct {
		outer, opening, middle, closing string
		most                            int
	}{
		{"?", "-", "1", "", 39}, {"?", "not ", "a", "", 39}, {"?", "await ", "a", "", 39}, {"?", "[", "", "]", 40}, {"?", "[", "0", "]", 39}, {"?", "f(", "", ")", 40}, {"?", "f(", "a", ")", 39}, {"?", "go f(", "a", ")", 39},
		{"?", `{"":`, "0", "}", 19}, {"?", `{"":`, "-0", "}", 19}, {"?", "", "a", ".x", 39}, {"?", "", "a", "[0]", 39}, {"?", "a[", "0", "]", 39}, {"?", "", "a", "+a", 39}, {"?", "", "a", " and a", 39}, {"?", "", "a", " or a", 39}, {"?", "", "a", "*a", 39},
		{"?", "a+(", "a", ")", 39}, {"?", "(a<", "a", ")", 39}, {"?", "a and(", "a", ")", 39}, {"?", "(", "-1", ")", 5000}, {"[0,?,0]", "-", "1", "", 38}, {"a+?", "-", "1", "", 38}, {"?+a", "-", "1", "", 38}, {"f(?,[[]])", "[", "", "]", 39},
		{returned, "-", "1", "", 35}, {returned, "[", "", "]", 36}, {function, "saga{", "", "}", 18}, {function, "saga{", "return;", "}", 18}, {function, "saga{", "a;", "}", 17}, {function, "while a{", "", "}", 18}, {function, "if a{", "", "}", 18}, {function, "if a{}else{", "", "}", 18},
		{function, "if a{}else ", "if a{}", "", 35}, {function, "if a{}else ", "{}", "", 36}, {function, "try{", "", "}catch e{}", 18}, {function, "try{}catch e{", "", "}", 18}, {function, "select{case a{", "", "}}", 12}, {function, "select{else{", "return;", "}}", 12}, {function, "select{case a{}else{", "0;", "}}", 11},
		{"on signal s(x){?}", "saga{", "", "}", 18}, {"on query q(x){?}", "saga{", "return;", "}", 18}, {"on update u(x){?}", "saga{", "", "}", 18}, {"on update u(x)check{?}{}", "saga{", "", "}", 18}, {"on update u(x)check{}{?}", "saga{", "", "}", 18}, {"var a=1;func f(){} func g(){?} func h(){}", "saga{", "", "}", 18},
	} {
		rule := "expr"
		if strings.Contains(x.outer, "{") && x.outer != "?" {
			rule = "program"
		}
		tree, at, e := parse(rule, within(x.outer, around(x.most, x.opening, x.middle, x.closing)))
		if at != 0 || e != api.OK || !syntax.Right(tree) && !syntax.RightExpr(tree) {
			t.Errorf("%d times %s: %d, %d", x.most, x.opening, at, int(e))
		}
		if _, depth := refMeasure(tree); depth != syntax.Depth(tree) || depth < 38 && x.most != 5000 {
			t.Errorf("%d times %s: the depth %d, Depth is %d", x.most, x.opening, depth, syntax.Depth(tree))
		}
		if x.most == 5000 {
			continue
		}
		for _, n := range []int{x.most + 1, x.most + 2, 100} {
			src := within(x.outer, around(n, x.opening, x.middle, x.closing))
			wantFault(t, rule, src, 0, api.ErrDepth)
			wantFault(t, rule, src+" ]", len(src)+1, api.ErrSyntax)
			wantFault(t, rule, src+" #", len(src)+1, api.ErrForm)
		}
	}
}

// P8.1, P8.2: of several errors, that of a token comes first, then that of the grammar, the size and the depth.
func TestSeveralErrors(t *testing.T) {
	deep := around(41, "[", "", "]")
	wantFault(t, "expr", deep, 0, api.ErrDepth)
	for _, x := range []struct{ rule, outer string }{{"expr", "[?]"}, {"program", "func f(){return [?];}"}} {
		both := within(x.outer, deep+strings.Repeat(",0", 4000))
		wantFault(t, x.rule, both, 0, api.ErrSize)
		wantFault(t, x.rule, within(x.outer, strings.Repeat("0,", 4000)+deep), 0, api.ErrSize)
		wantFault(t, x.rule, both+" )", len(both)+1, api.ErrSyntax)
		wantFault(t, x.rule, both+" ) !", len(both)+3, api.ErrForm)
		wantFault(t, x.rule, "] "+both, 0, api.ErrSyntax)
		wantFault(t, x.rule, "] ! "+both, 2, api.ErrForm)
		wantFault(t, x.rule, both+strings.Repeat(" ", 16384-len(both)), 0, api.ErrSize)
		wantFault(t, x.rule, "] !"+strings.Repeat(" ", 16382), 0, api.ErrSize)
	}
	// The greatest tree of the greatest depth, and both limits exceeded by one.
	most := "[" + around(39, "[", "", "]") + strings.Repeat(",0", 3960) + "]"
	n, at, e := syntax.Expr(most)
	if size, depth := refMeasure(n); at != 0 || e != api.OK || size != 4000 || depth != 40 || !syntax.RightExpr(n) {
		t.Errorf("the greatest tree: %d, %d, %d nodes, depth %d", at, int(e), size, depth)
	}
	wantFault(t, "expr", "["+around(40, "[", "", "]")+strings.Repeat(",0", 3959)+"]", 0, api.ErrDepth)
	wantFault(t, "expr", "["+around(40, "[", "", "]")+strings.Repeat(",0", 3960)+"]", 0, api.ErrSize)
}

// P8.1, P8.2, R1: what is nested as deep as the text permits is read to its end.
func TestNestedVeryDeep(t *testing.T) {
	wantTree(t, "expr", around(8191, "(", "a", ")"), variable("a"))
	wantTree(t, "expr", around(8191, "(", "a", ")")+"\n", variable("a"))
	wantFault(t, "expr", around(8191, "(", "a", ")")+")", 16383, api.ErrSyntax)
	wantFault(t, "expr", "("+around(8191, "(", "a", ")"), 16384, api.ErrSyntax)
	wantFault(t, "expr", around(8192, "(", "a", ")"), 0, api.ErrSize) // a text that is too long
	for _, x := range []struct {
		opening, middle, closing string
		n                        int
		e                        api.Errno
	}{
		{"-", "a", "", 16383, api.ErrSize}, {"-", "a", "", 4000, api.ErrSize}, {"-", "a", "", 3999, api.ErrDepth}, {"not ", "a", "", 4000, api.ErrSize}, {"not ", "a", "", 3999, api.ErrDepth}, {"await ", "a", "", 2700, api.ErrDepth},
		{"[", "", "]", 8192, api.ErrSize}, {"[", "", "]", 4001, api.ErrSize}, {"[", "", "]", 4000, api.ErrDepth}, {`{"":`, "0", "}", 3200, api.ErrSize}, {`{"":`, "0", "}", 1999, api.ErrDepth}, {"f(", "", ")", 5461, api.ErrSize}, {"f(", "", ")", 4000, api.ErrDepth}, {"a[", "0", "]", 5000, api.ErrSize}, {"a[", "0", "]", 1999, api.ErrDepth}, {"go f(", "", ")", 2700, api.ErrDepth},
		{"a+(", "a", ")", 4000, api.ErrSize}, {"a+(", "a", ")", 1999, api.ErrDepth}, {"not(", "a", ")", 3200, api.ErrDepth}, {"-(", "a", ")", 5461, api.ErrSize}, {"", "a", "+a", 8000, api.ErrSize}, {"", "a", ".x", 8000, api.ErrSize}, {"", "a", ".x", 3999, api.ErrDepth}, {"", "a", "[0]", 1999, api.ErrDepth},
	} {
		wantFault(t, "expr", around(x.n, x.opening, x.middle, x.closing), 0, x.e)
		if x.opening != "" {
			cut := strings.TrimRight(strings.Repeat(x.opening, 16384/len(x.opening)), " ")
			wantFault(t, "expr", cut, len(cut), api.ErrSyntax)
		}
	}
	for _, x := range []struct {
		opening, closing string
		n                int
		e                api.Errno
	}{
		{"saga{", "}", 2700, api.ErrSize}, {"saga{", "}", 1998, api.ErrDepth}, {"if a{", "}", 2700, api.ErrSize}, {"if a{", "}", 1332, api.ErrDepth}, {"if a{}else ", "", 1480, api.ErrSize}, {"while[]{", "}", 1800, api.ErrSize}, {"try{", "}catch e{}", 1090, api.ErrDepth}, {"select{else{", "}}", 1150, api.ErrDepth}, {"select{case a{", "}}", 999, api.ErrDepth},
	} {
		middle := ""
		if x.closing == "" {
			middle = "{}"
		}
		wantFault(t, "program", "func f(){"+around(x.n, x.opening, middle, x.closing)+"}", 0, x.e)
		cut := strings.TrimRight("func f(){"+strings.Repeat(x.opening, 16375/len(x.opening)), " ")
		wantFault(t, "program", cut, len(cut), api.ErrSyntax)
	}
}

// P8.1: many functions, and a text of MaxSource bytes.
func TestLongPrograms(t *testing.T) {
	n, at, e := syntax.Parse(strings.Repeat("func f(){}", 1638) + " \t\n ")
	if at != 0 || e != api.OK || syntax.Size(n) != 3277 || syntax.Depth(n) != 3 || len(n.Kids) != 1638 {
		t.Errorf("1638 functions: %d, %d, %d nodes", at, int(e), syntax.Size(n))
	}
	wantFault(t, "program", strings.Repeat("func f(){}", 1638)+" \t\n  ", 0, api.ErrSize)
	wantFault(t, "program", strings.Repeat("func f(){}", 1638)+"func", 16384, api.ErrSyntax)
	wantTree(t, "expr", `["`+strings.Repeat("a", 4096)+`","`+strings.Repeat("a", 4096)+`"]`, node(api.XList, text(strings.Repeat("a", 4096)), text(strings.Repeat("a", 4096))))
	wantTree(t, "expr", `{"`+strings.Repeat("a", 4096)+`":0}`, node(api.XMap, pair(strings.Repeat("a", 4096), number(0))))
	wantFault(t, "expr", `["`+strings.Repeat("a", 4097)+`"]`, 1, api.ErrSize)
}
