package source_test

import (
	"math"
	"strings"
	"testing"

	"workflow/api"
)

// P9.1: every declaration.
func TestEachDeclaration(t *testing.T) {
	b, r := block(), block(node(api.SReturn))
	for _, x := range []struct {
		n    api.Node
		want string
	}{
		{named(api.DVar, "x", node(api.XNull)), "var x = null;\n"}, {named(api.DVar, "x", node(api.XTrue)), "var x = true;\n"}, {named(api.DVar, "x", node(api.XFalse)), "var x = false;\n"},
		{named(api.DVar, "x", number(0)), "var x = 0;\n"}, {named(api.DVar, "x", number(math.MaxInt)), "var x = 9223372036854775807;\n"}, {named(api.DVar, "x", text("a\n")), "var x = \"a\\n\";\n"},
		{named(api.DVar, "x", node(api.XNeg, number(5))), "var x = -5;\n"}, {named(api.DVar, "x", node(api.XNeg, number(0))), "var x = -0;\n"}, {named(api.DVar, "x", node(api.XNeg, number(math.MaxInt))), "var x = -9223372036854775807;\n"},
		{named(api.DFunc, "f", b), "func f() {\n}\n"}, {named(api.DFunc, "f", r), "func f() {\n  return;\n}\n"}, {named(api.DFunc, "f", variable("a"), b), "func f(a) {\n}\n"}, {named(api.DFunc, "f", variable("a"), variable("b"), r), "func f(a, b) {\n  return;\n}\n"}, {named(api.DFunc, "f", variable("a"), variable("a"), variable("c"), b), "func f(a, a, c) {\n}\n"},
		{handler(api.DSignal, "s", "p", b), "on signal s(p) {\n}\n"}, {handler(api.DSignal, "s", "p", r), "on signal s(p) {\n  return;\n}\n"}, {handler(api.DQuery, "q", "p", b), "on query q(p) {\n}\n"}, {handler(api.DQuery, "q", "p", r), "on query q(p) {\n  return;\n}\n"},
		{handler(api.DUpdate, "u", "p", b), "on update u(p) {\n}\n"}, {handler(api.DUpdate, "u", "p", r), "on update u(p) {\n  return;\n}\n"},
		{handler(api.DUpdate, "u", "p", b, b), "on update u(p) check {\n} {\n}\n"}, {handler(api.DUpdate, "u", "p", r, b), "on update u(p) check {\n  return;\n} {\n}\n"}, {handler(api.DUpdate, "u", "p", b, r), "on update u(p) check {\n} {\n  return;\n}\n"},
	} {
		program := node(api.DProgram, x.n)
		wantText(t, program, x.want)
		wantReference(t, program)
		wantText(t, node(api.DProgram, x.n, x.n, named(api.DVar, "y", number(1))), x.want+x.want+"var y = 1;\n")
		wantRefused(t, x.n, api.ErrArg)
	}
	wantText(t, node(api.DProgram), "")
}

// P9.1: every statement, alone and behind and before others.
func TestEachStatement(t *testing.T) {
	a, c, b := variable("a"), variable("c"), block()
	r := block(node(api.SReturn))
	other := func(blocks ...api.Node) api.Node { return node(api.SIf, append([]api.Node{c}, blocks...)...) }
	for _, x := range []struct {
		n    api.Node
		want string
	}{
		{named(api.SLet, "x", a), "let x = a;"}, {named(api.SSet, "x", a), "x = a;"}, {named(api.SSet, "x", node(api.XEq, a, c)), "x = a == c;"},
		{node(api.SReturn), "return;"}, {node(api.SReturn, a), "return a;"}, {node(api.SReturn, node(api.XNeg, a)), "return -a;"}, {node(api.SThrow, a), "throw a;"}, {node(api.SExpr, a), "a;"}, {node(api.SExpr, node(api.XMap)), "{};"}, {node(api.SExpr, node(api.XEq, a, c)), "a == c;"}, {node(api.SExpr, named(api.XGo, "f")), "go f();"},
		{named(api.SUndo, "g"), "undo g();"}, {named(api.SUndo, "g", a), "undo g(a);"}, {named(api.SUndo, "g", a, c, node(api.XOr, a, c)), "undo g(a, c, a or c);"},
		{node(api.SWhile, a, b), "while a {\n}"}, {node(api.SWhile, node(api.XOr, a, c), r), "while a or c {\n  return;\n}"}, {node(api.SWhile, node(api.XMap), b), "while {} {\n}"},
		{node(api.SSaga, b), "saga {\n}"}, {node(api.SSaga, r), "saga {\n  return;\n}"}, {node(api.SSaga, block(node(api.SSaga, r))), "saga {\n  saga {\n    return;\n  }\n}"},
		{named(api.STry, "x", b, b), "try {\n} catch x {\n}"}, {named(api.STry, "x", r, b), "try {\n  return;\n} catch x {\n}"}, {named(api.STry, "x", b, r), "try {\n} catch x {\n  return;\n}"},
		{node(api.SIf, a, b), "if a {\n}"}, {node(api.SIf, a, r), "if a {\n  return;\n}"}, {node(api.SIf, a, b, b), "if a {\n} else {\n}"}, {node(api.SIf, a, r, r), "if a {\n  return;\n} else {\n  return;\n}"},
		{node(api.SIf, a, b, other(b)), "if a {\n} else if c {\n}"}, {node(api.SIf, a, r, other(b, r)), "if a {\n  return;\n} else if c {\n} else {\n  return;\n}"}, {node(api.SIf, a, b, other(r, other(b, other(r, b)))), "if a {\n} else if c {\n  return;\n} else if c {\n} else if c {\n  return;\n} else {\n}"},
		{node(api.SIf, a, b, block(other(b))), "if a {\n} else {\n  if c {\n  }\n}"}, {node(api.SIf, a, block(other(b, b)), other(b)), "if a {\n  if c {\n  } else {\n  }\n} else if c {\n}"},
		{node(api.SSelect, node(api.SCase, a, b)), "select {\n  case a {\n  }\n}"}, {node(api.SSelect, named(api.SCase, "x", a, r)), "select {\n  case x = a {\n    return;\n  }\n}"}, {node(api.SSelect, node(api.SElse, b)), "select {\n  else {\n  }\n}"}, {node(api.SSelect, node(api.SElse, r)), "select {\n  else {\n    return;\n  }\n}"},
		{node(api.SSelect, node(api.SCase, node(api.XEq, a, c), r), named(api.SCase, "x", node(api.XAwait, a), b), node(api.SElse, r)), "select {\n  case a == c {\n    return;\n  }\n  case x = await a {\n  }\n  else {\n    return;\n  }\n}"},
		{node(api.SSelect, node(api.SCase, a, block(node(api.SSelect, node(api.SElse, r))))), "select {\n  case a {\n    select {\n      else {\n        return;\n      }\n    }\n  }\n}"},
	} {
		want := "  " + strings.ReplaceAll(x.want, "\n", "\n  ") + "\n"
		wantText(t, body(x.n), "func f() {\n"+want+"}\n")
		wantReference(t, body(x.n))
		wantText(t, body(x.n, x.n, node(api.SReturn)), "func f() {\n"+want+want+"  return;\n}\n")
		wantText(t, node(api.DProgram, handler(api.DUpdate, "u", "p", block(x.n), block(node(api.SReturn), x.n))), "on update u(p) check {\n"+want+"} {\n  return;\n"+want+"}\n")
		wantRefused(t, x.n, api.ErrArg)
	}
}

// P9.1: MaxCases cases, with and without an else branch.
func TestMostCases(t *testing.T) {
	branch, n := named(api.SCase, "x", variable("a"), block()), node(api.SSelect)
	for range 16 {
		n.Kids = append(n.Kids, branch)
	}
	before, cases := "func f() {\n  select {\n", strings.Repeat("    case x = a {\n    }\n", 16)
	wantText(t, body(n), before+cases+"  }\n}\n")
	n.Kids = append(n.Kids, node(api.SElse, block()))
	wantText(t, body(n), before+cases+"    else {\n    }\n  }\n}\n")
	n.Kids = append([]api.Node{branch}, n.Kids...)
	wantRefused(t, body(n), api.ErrArg)
}

// P9.1: a program with everything in it.
func TestWholeProgram(t *testing.T) {
	x, one := variable("x"), number(1)
	n := node(api.DProgram,
		named(api.DVar, "total", node(api.XNeg, number(5))),
		named(api.DVar, "name", text("a\tb")),
		handler(api.DSignal, "add", "n", block(named(api.SSet, "total", node(api.XAdd, variable("total"), variable("n"))))),
		handler(api.DQuery, "sum", "x", block(node(api.SReturn, variable("total")))),
		handler(api.DUpdate, "set", "v", block(node(api.SIf, node(api.XLt, variable("v"), number(0)), block(node(api.SThrow, text("negative"))))), block(named(api.SSet, "total", variable("v")))),
		named(api.DFunc, "main", x, block(
			named(api.SLet, "t", named(api.XCall, "timer", number(5))),
			node(api.SSaga, block(
				named(api.SUndo, "back", x, one),
				named(api.STry, "e", block(node(api.SExpr, node(api.XAwait, named(api.XCall, "activity", text("a"), node(api.XMap, pair("k", x), pair("l", node(api.XList))))))), block(
					node(api.SWhile, node(api.XNot, named(api.XCall, "done", variable("t"))), block()))))),
			node(api.SSelect,
				named(api.SCase, "y", named(api.XCall, "receive", text("s")), block(node(api.SReturn, node(api.XMul, node(api.XAdd, variable("y"), one), node(api.XIndex, x, one))))),
				node(api.SCase, variable("t"), block()),
				node(api.SElse, block(node(api.SReturn)))))),
		named(api.DFunc, "back", variable("a"), variable("b"), block()))
	wantText(t, n, `var total = -5;
var name = "a\tb";
on signal add(n) {
  total = total + n;
}
on query sum(x) {
  return total;
}
on update set(v) check {
  if v < 0 {
    throw "negative";
  }
} {
  total = v;
}
func main(x) {
  let t = timer(5);
  saga {
    undo back(x, 1);
    try {
      await activity("a", {"k": x, "l": []});
    } catch e {
      while not done(t) {
      }
    }
  }
  select {
    case y = receive("s") {
      return (y + 1) * x[1];
    }
    case t {
    }
    else {
      return;
    }
  }
}
func back(a, b) {
}
`)
	wantReference(t, n)
}
