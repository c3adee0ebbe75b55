package syntax

import (
	"workflow/api"
	"workflow/token"
)

// Right reports whether n is a valid program tree.
func Right(n api.Node) bool { return n.Op == api.DProgram && fits(n) && formed(n) }

// RightExpr reports whether n is a valid expression tree.
func RightExpr(n api.Node) bool { return isExpr(n.Op) && fits(n) && formed(n) }

// fits reports whether a tree is within the limits.
func fits(n api.Node) bool { return room(n, api.MaxTree, api.MaxNesting) >= 0 }

// room returns how many of a number of nodes are left behind a tree, or a negative number if the tree has more
// nodes or a greater depth. It goes no further than that, so it ends even for a tree that contains itself.
func room(n api.Node, nodes, depth int) int {
	if depth == 0 {
		return -1
	}
	nodes--
	for _, kid := range n.Kids {
		if nodes < 0 {
			break
		}
		nodes = room(kid, nodes, depth-1)
	}
	return nodes
}

// formed reports whether every node of a tree has the fields that its Op uses, and no others.
func formed(n api.Node) bool {
	if !fieldsFit(n) || !kidsFit(n) {
		return false
	}
	for _, kid := range n.Kids {
		if !formed(kid) {
			return false
		}
	}
	return true
}

// fieldsFit reports whether the fields of a node beside Kids are those of its Op.
func fieldsFit(n api.Node) bool {
	name, number, text := n.Name == "", n.Int == 0, n.Text == ""
	switch n.Op {
	case api.XInt:
		number = n.Int >= 0
	case api.XText, api.XPair:
		text = len(n.Text) <= api.MaxText
	case api.XName, api.XCall, api.XGo, api.XField, api.SLet, api.SSet, api.STry, api.SUndo, api.DVar, api.DFunc:
		name = isName(n.Name)
	case api.SCase:
		name = name || isName(n.Name)
	case api.DSignal, api.DQuery, api.DUpdate:
		name, text = isName(n.Name), isName(n.Text)
	}
	return name && number && text
}

// isName reports whether a string is a name and no keyword: a whole token of this kind.
func isName(s string) bool {
	tokens, _, e := token.Scan(s)
	return e == api.OK && tokens[0].Kind == api.TokName && tokens[0].Text == s
}

// kidsFit reports whether a node has kids with the Ops that its own Op asks for.
func kidsFit(n api.Node) bool {
	kids := n.Kids
	switch n.Op {
	case api.XNull, api.XTrue, api.XFalse, api.XInt, api.XText, api.XName:
		return match(kids)
	case api.XList, api.XCall, api.XGo, api.SUndo:
		return all(kids, isExpr)
	case api.XMap:
		return all(kids, only(api.XPair))
	case api.XPair, api.XAwait, api.XNot, api.XNeg, api.XField, api.SLet, api.SSet, api.SThrow, api.SExpr:
		return match(kids, isExpr)
	case api.XMul, api.XDiv, api.XMod, api.XAdd, api.XSub, api.XLt, api.XLe, api.XGt, api.XGe, api.XEq, api.XNe, api.XAnd, api.XOr, api.XIndex:
		return match(kids, isExpr, isExpr)
	case api.SIf:
		return match(kids, isExpr, isBlock) || match(kids, isExpr, isBlock, isElse)
	case api.SWhile, api.SCase:
		return match(kids, isExpr, isBlock)
	case api.SReturn:
		return match(kids) || match(kids, isExpr)
	case api.STry:
		return match(kids, isBlock, isBlock)
	case api.SSaga, api.SElse, api.DSignal, api.DQuery:
		return match(kids, isBlock)
	case api.SSelect:
		return branchesFit(kids)
	case api.SBlock:
		return all(kids, isStatement)
	case api.DVar:
		return match(kids, isLiteral) || match(kids, only(api.XNeg)) && match(kids[0].Kids, only(api.XInt))
	case api.DFunc:
		params := max(len(kids)-1, 0)
		return all(kids[:params], only(api.XName)) && match(kids[params:], isBlock)
	case api.DUpdate:
		return match(kids, isBlock) || match(kids, isBlock, isBlock)
	case api.DProgram:
		return all(kids, isDeclaration)
	}
	return false
}

// branchesFit reports whether kids are those of a select statement.
func branchesFit(kids []api.Node) bool {
	cases := len(kids)
	if cases > 0 && kids[cases-1].Op == api.SElse {
		cases--
	}
	return len(kids) > 0 && cases <= api.MaxCases && all(kids[:cases], only(api.SCase))
}

// match reports whether there is one kid for each of some sets of Ops, with an Op of this set.
func match(kids []api.Node, sets ...func(int) bool) bool {
	if len(kids) != len(sets) {
		return false
	}
	for i, kid := range kids {
		if !sets[i](kid.Op) {
			return false
		}
	}
	return true
}

// all reports whether all kids have an Op of a set.
func all(kids []api.Node, set func(int) bool) bool {
	for _, kid := range kids {
		if !set(kid.Op) {
			return false
		}
	}
	return true
}

// only returns the set of one Op.
func only(op int) func(int) bool { return func(other int) bool { return other == op } }

func isExpr(op int) bool { return api.XNull <= op && op <= api.XField && op != api.XPair }

func isLiteral(op int) bool { return api.XNull <= op && op <= api.XText }

func isBlock(op int) bool { return op == api.SBlock }

func isElse(op int) bool { return op == api.SBlock || op == api.SIf }

func isStatement(op int) bool {
	return api.SLet <= op && op <= api.SExpr && op != api.SCase && op != api.SElse
}

func isDeclaration(op int) bool { return api.DVar <= op && op <= api.DUpdate }
