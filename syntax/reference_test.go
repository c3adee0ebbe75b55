package syntax_test

import (
	"fmt"
	"regexp"
	"strings"

	"workflow/api"
	"workflow/token"
)

// The grammar of DOC.md ('Programs'), with names for the parts that have nodes of their own, and CASES for the
// branches of a select statement as P8.1 limits them.
const grammarText = `
program     = { declaration }
declaration = "var" name "=" constant ";" | "func" name "(" [ parameter { "," parameter } ] ")" block
            | "on" "signal" name "(" name ")" block | "on" "query" name "(" name ")" block
            | "on" "update" name "(" name ")" [ "check" block ] block
parameter   = name
block       = "{" { statement } "}"
statement   = "let" name "=" expr ";" | name "=" expr ";" | condition
            | "while" expr block | "return" [ expr ] ";" | "throw" expr ";" | "try" block "catch" name block
            | "saga" block | "undo" name "(" [ expr { "," expr } ] ")" ";"
            | "select" "{" ( otherwise | CASES ) "}" | expr ";"
condition   = "if" expr block [ "else" ( block | condition ) ]
branch      = "case" [ name "=" ] expr block
otherwise   = "else" block
expr        = and { "or" and }          and = not { "and" not }          not = "not" not | compare
compare     = sum [ ( "<" | "<=" | ">" | ">=" | "==" | "!=" ) sum ]
sum         = product { ( "+" | "-" ) product }     product = unary { ( "*" | "/" | "%" ) unary }
unary       = "-" unary | "await" unary | "go" name "(" [ expr { "," expr } ] ")" | postfix
postfix     = primary { "." name | "[" expr "]" }
primary     = integer | string | "true" | "false" | "null" | name | name "(" [ expr { "," expr } ] ")"
            | "[" [ expr { "," expr } ] "]" | "{" [ pair { "," pair } ] "}" | "(" expr ")"
pair        = string ":" expr
constant    = integer | "-" integer | string | "true" | "false" | "null"
`

// allCases is what CASES stands for: one to 16 branches, and then perhaps another one.
func allCases() string {
	return "branch" + strings.Repeat(" [ branch", 15) + strings.Repeat(" ]", 15) + " [ otherwise ]"
}

// pattern is a part of the grammar.
type pattern struct {
	kind  byte   // ' ' sequence, '|' choice, '{' repetition, '[' option, 'r' rule, 't' token
	text  string // of a token, or the name of a rule or a class of tokens
	parts []*pattern
}

// grammar holds the patterns of the rules.
var grammar = readGrammar()

var symbolForm = regexp.MustCompile(`"[^"]*"|[a-z]+|[=|{}()\[\]]`)

// readGrammar reads the grammar. A word before = begins a rule.
func readGrammar() map[string]*pattern {
	symbols := symbolForm.FindAllString(strings.Replace(grammarText, "CASES", allCases(), 1), -1)
	rules := map[string]*pattern{}
	for len(symbols) > 0 {
		name := symbols[0]
		var p *pattern
		p, symbols = readChoice(symbols[2:])
		rules[name] = p
	}
	return rules
}

func readChoice(symbols []string) (*pattern, []string) {
	choice := &pattern{kind: '|'}
	for {
		sequence := &pattern{kind: ' '}
		for len(symbols) > 0 && !strings.Contains("|)]}", symbols[0]) && (len(symbols) == 1 || symbols[1] != "=") {
			var p *pattern
			p, symbols = readPart(symbols)
			sequence.parts = append(sequence.parts, p)
		}
		choice.parts = append(choice.parts, sequence)
		if len(symbols) == 0 || symbols[0] != "|" {
			return choice, symbols
		}
		symbols = symbols[1:]
	}
}

func readPart(symbols []string) (*pattern, []string) {
	s := symbols[0]
	switch s[0] {
	case '(', '[', '{':
		inner, rest := readChoice(symbols[1:])
		return &pattern{kind: s[0], parts: []*pattern{inner}}, rest[1:]
	case '"':
		return &pattern{kind: 't', text: s}, symbols[1:]
	}
	if s == "name" || s == "integer" || s == "string" || s == "end" {
		return &pattern{kind: 't', text: s}, symbols[1:]
	}
	return &pattern{kind: 'r', text: s}, symbols[1:]
}

// piece is a token, or what a rule has matched.
type piece struct {
	rule  string
	token api.Token
	parts []piece
}

// found is one way in which a pattern matches the tokens up to an index.
type found struct {
	end   int
	parts []piece
}

type place struct {
	rule string
	at   int
}

// reference matches patterns in all ways.
type reference struct {
	tokens   []api.Token
	furthest int // the greatest index of a token that a pattern has asked for
	known    map[place][]found
}

func (r *reference) match(p *pattern, at int) []found {
	switch p.kind {
	case 't':
		r.furthest = max(r.furthest, at)
		if !fits(r.tokens[at], p.text) {
			return nil
		}
		return []found{{at + 1, []piece{{token: r.tokens[at]}}}}
	case 'r':
		return r.rule(p.text, at)
	case '|':
		var l []found
		for _, part := range p.parts {
			l = append(l, r.match(part, at)...)
		}
		return l
	case ' ':
		l := []found{{end: at}}
		for _, part := range p.parts {
			l = r.behind(l, part)
		}
		return l
	case '[':
		return append([]found{{end: at}}, r.match(p.parts[0], at)...)
	case '{':
		l := []found{{end: at}}
		for last := l; len(last) > 0; l = append(l, last...) {
			last = r.behind(last, p.parts[0])
		}
		return l
	}
	return r.match(p.parts[0], at)
}

// behind matches a pattern behind each of some matches.
func (r *reference) behind(l []found, p *pattern) []found {
	var next []found
	for _, f := range l {
		for _, g := range r.match(p, f.end) {
			next = append(next, found{g.end, append(f.parts[:len(f.parts):len(f.parts)], g.parts...)})
		}
	}
	return next
}

func (r *reference) rule(name string, at int) []found {
	if l, ok := r.known[place{name, at}]; ok {
		return l
	}
	var l []found
	for _, f := range r.match(grammar[name], at) {
		l = append(l, found{f.end, []piece{{rule: name, parts: f.parts}}})
	}
	r.known[place{name, at}] = l
	return l
}

// fits reports whether a token is one of those that a text of the grammar stands for.
func fits(t api.Token, text string) bool {
	switch text {
	case "name":
		return t.Kind == 1
	case "integer":
		return t.Kind == 3
	case "string":
		return t.Kind == 4
	case "end":
		return t.Kind == 0
	}
	return (t.Kind == 2 || t.Kind == 5) && `"`+t.Text+`"` == text
}

// refParse parses a text by a rule of the grammar, and counts in how many ways it can be parsed.
func refParse(rule, src string) (n api.Node, at int, e api.Errno, ways int) {
	tokens, at, e := token.Scan(src)
	if e != api.OK {
		return api.Node{}, at, e, 0
	}
	r := &reference{tokens: tokens, known: map[place][]found{}}
	whole := &pattern{kind: ' ', parts: []*pattern{{kind: 'r', text: rule}, {kind: 't', text: "end"}}}
	l := r.match(whole, 0)
	if len(l) == 0 {
		return api.Node{}, tokens[r.furthest].At, 29, 0
	}
	n = refTree(l[0].parts[0])
	switch size, depth := refMeasure(n); {
	case size > 4000:
		return api.Node{}, 0, 6, len(l)
	case depth > 40:
		return api.Node{}, 0, 7, len(l)
	}
	return n, 0, api.OK, len(l)
}

// The Ops of nodes that begin with a token, and of those that have an operator.
var (
	opsByWord = map[string]int{
		"var": 61, "func": 62, "signal": 63, "query": 64, "update": 65, "let": 40, "if": 42, "while": 43, "return": 44, "throw": 45,
		"try": 46, "saga": 47, "undo": 48, "select": 49, "case": 50, "else": 51, "go": 11, "await": 12, "not": 13, "-": 14,
		"null": 1, "true": 2, "false": 3,
	}
	opsByOperator = map[string]int{
		"*": 15, "/": 16, "%": 17, "+": 18, "-": 19, "<": 20, "<=": 21, ">": 22, ">=": 23, "==": 24, "!=": 25, "and": 26, "or": 27,
	}
)

// refTree returns the tree of what a rule has matched.
func refTree(p piece) api.Node {
	switch p.rule {
	case "expr", "and", "sum", "product", "compare", "postfix":
		return refFold(p.parts)
	}
	first := p.parts
	var kids []api.Node
	var names, texts []string
	for _, part := range p.parts {
		switch {
		case part.rule != "":
			kids = append(kids, refTree(part))
		case part.token.Kind == 1:
			names = append(names, part.token.Text)
		case part.token.Kind == 4:
			texts = append(texts, part.token.Text)
		}
	}
	switch p.rule {
	case "program":
		return api.Node{Op: 60, Kids: kids}
	case "block":
		return api.Node{Op: 53, Kids: kids}
	case "parameter":
		return api.Node{Op: 6, Name: names[0]}
	case "pair":
		return api.Node{Op: 9, Text: texts[0], Kids: kids}
	case "statement":
		switch {
		case first[0].rule == "condition":
			return kids[0]
		case first[0].rule == "expr":
			return api.Node{Op: 52, Kids: kids}
		case first[0].token.Kind == 1:
			return api.Node{Op: 41, Name: names[0], Kids: kids}
		}
	case "not", "unary":
		if first[0].rule != "" {
			return kids[0]
		}
	case "primary", "constant":
		return refPrimary(first, names, kids)
	}
	word := first[0].token.Text
	if word == "on" {
		return api.Node{Op: opsByWord[first[1].token.Text], Name: names[0], Text: names[1], Kids: kids}
	}
	return api.Node{Op: opsByWord[word], Name: strings.Join(names, "?"), Kids: kids}
}

// refPrimary returns the tree of a primary expression or a constant.
func refPrimary(parts []piece, names []string, kids []api.Node) api.Node {
	t := parts[0].token
	switch {
	case t.Kind == 3:
		return api.Node{Op: 4, Int: t.Int}
	case t.Kind == 4:
		return api.Node{Op: 5, Text: t.Text}
	case t.Kind == 1 && len(parts) == 1:
		return api.Node{Op: 6, Name: names[0]}
	case t.Kind == 1:
		return api.Node{Op: 10, Name: names[0], Kids: kids}
	case t.Text == "[":
		return api.Node{Op: 7, Kids: kids}
	case t.Text == "{":
		return api.Node{Op: 8, Kids: kids}
	case t.Text == "(":
		return kids[0]
	case t.Text == "-":
		return api.Node{Op: 14, Kids: []api.Node{{Op: 4, Int: parts[1].token.Int}}}
	}
	return api.Node{Op: opsByWord[t.Text]}
}

// refFold applies operators, fields and indices from the left.
func refFold(parts []piece) api.Node {
	n := refTree(parts[0])
	for i := 1; i < len(parts); i += 2 {
		switch t := parts[i].token; t.Text {
		case ".":
			n = api.Node{Op: 29, Name: parts[i+1].token.Text, Kids: []api.Node{n}}
		case "[":
			n = api.Node{Op: 28, Kids: []api.Node{n, refTree(parts[i+1])}}
			i++ // the closing bracket
		default:
			n = api.Node{Op: opsByOperator[t.Text], Kids: []api.Node{n, refTree(parts[i+1])}}
		}
	}
	return n
}

// refMeasure returns the size and the depth of a tree, level by level.
func refMeasure(n api.Node) (size, depth int) {
	for level := []api.Node{n}; len(level) > 0; depth++ {
		size += len(level)
		var next []api.Node
		for _, m := range level {
			next = append(next, m.Kids...)
		}
		level = next
	}
	return size, depth
}

// shape writes all fields of a tree, so that equal trees have equal shapes.
func shape(n api.Node) string {
	var b strings.Builder
	writeShape(&b, n)
	return b.String()
}

func writeShape(b *strings.Builder, n api.Node) {
	fmt.Fprintf(b, "(%d %q %d %q", n.Op, n.Name, n.Int, n.Text)
	for _, kid := range n.Kids {
		b.WriteByte(' ')
		writeShape(b, kid)
	}
	b.WriteByte(')')
}

// The letter of each Op, and for each Op the fields that it uses (n name, e name or empty, i integer, t text,
// p name in Text) and a pattern of the letters of its kids.
var forms = map[int]struct{ letter, fields, kids string }{
	1: {"c", "", ``}, 2: {"c", "", ``}, 3: {"c", "", ``}, 4: {"i", "i", ``}, 5: {"c", "t", ``}, 6: {"n", "n", ``},
	7: {"x", "", `E*`}, 8: {"x", "", `p*`}, 9: {"p", "t", `E`}, 10: {"x", "n", `E*`}, 11: {"x", "n", `E*`},
	12: {"x", "", `E`}, 13: {"x", "", `E`}, 14: {"m", "", `E`},
	15: {"x", "", `EE`}, 16: {"x", "", `EE`}, 17: {"x", "", `EE`}, 18: {"x", "", `EE`}, 19: {"x", "", `EE`}, 20: {"x", "", `EE`}, 21: {"x", "", `EE`},
	22: {"x", "", `EE`}, 23: {"x", "", `EE`}, 24: {"x", "", `EE`}, 25: {"x", "", `EE`}, 26: {"x", "", `EE`}, 27: {"x", "", `EE`}, 28: {"x", "", `EE`},
	29: {"x", "n", `E`},
	40: {"s", "n", `E`}, 41: {"s", "n", `E`}, 42: {"f", "", `Eb[bf]?`}, 43: {"s", "", `Eb`}, 44: {"s", "", `E?`}, 45: {"s", "", `E`},
	46: {"s", "n", `bb`}, 47: {"s", "", `b`}, 48: {"s", "n", `E*`}, 49: {"s", "", `k{1,16}|k{0,16}l`}, 50: {"k", "e", `Eb`}, 51: {"l", "", `b`}, 52: {"s", "", `E`},
	53: {"b", "", `[sf]*`},
	60: {"P", "", `d*`}, 61: {"d", "n", `[cim]`}, 62: {"d", "n", `n*b`}, 63: {"d", "np", `b`}, 64: {"d", "np", `b`}, 65: {"d", "np", `bb?`},
}

// kidsForms holds the patterns of forms, where E is an expression.
var kidsForms = func() map[int]*regexp.Regexp {
	m := map[int]*regexp.Regexp{}
	for op, f := range forms {
		m[op] = regexp.MustCompile(`\A(` + strings.ReplaceAll(f.kids, "E", "[cinxm]") + `)\z`)
	}
	return m
}()

var nameForm = regexp.MustCompile(`\A[a-zA-Z_][a-zA-Z0-9_]{0,63}\z`)

const keywords = " and await case catch check else false func go if let not null on or query return saga select signal throw true try undo update var while "

func refName(s string) bool {
	return nameForm.MatchString(s) && !strings.Contains(keywords, " "+s+" ")
}

// refForm reports whether a tree has the form of the chapter, without the limits.
func refForm(n api.Node) bool {
	f, ok := forms[n.Op]
	letters := ""
	for _, kid := range n.Kids {
		letters += forms[kid.Op].letter
		if forms[kid.Op].letter == "" || !refForm(kid) {
			return false
		}
	}
	if !ok || !kidsForms[n.Op].MatchString(letters) {
		return false
	}
	if n.Op == 61 && n.Kids[0].Op == 14 && n.Kids[0].Kids[0].Op != 4 {
		return false
	}
	uses := func(field string) bool { return strings.Contains(f.fields, field) }
	switch {
	case uses("n") && !refName(n.Name), uses("e") && n.Name != "" && !refName(n.Name), !uses("n") && !uses("e") && n.Name != "":
		return false
	case uses("i") && n.Int < 0, !uses("i") && n.Int != 0:
		return false
	case uses("p") && !refName(n.Text), uses("t") && len(n.Text) > 4096, !uses("p") && !uses("t") && n.Text != "":
		return false
	}
	return true
}

// refRight is Right, and refRightExpr is RightExpr.
func refRight(n api.Node) bool     { return n.Op == 60 && refFits(n) && refForm(n) }
func refRightExpr(n api.Node) bool { return n.Op <= 29 && n.Op != 9 && refFits(n) && refForm(n) }

func refFits(n api.Node) bool {
	size, depth := refMeasure(n)
	return size <= 4000 && depth <= 40
}
