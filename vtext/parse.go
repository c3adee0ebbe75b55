package vtext

import (
	"slices"
	"strconv"
	"strings"

	"workflow/api"
	"workflow/value"
)

// Parse reads a payload; blanks between tokens are allowed. It returns the offset of an error.
func Parse(s string) (v api.Value, at int, e api.Errno) {
	defer func() {
		if f, ok := recover().(fault); ok {
			v, at, e = value.Null(), f.at, f.code
		}
	}()
	p := parser{text: s}
	v = p.value(1)
	p.blanks()
	p.require(p.at == len(s), p.at, api.ErrForm)
	return v, 0, api.OK
}

// fault is the panic by which a parser reports the first error of its text.
type fault struct {
	at   int
	code api.Errno
}

// parser reads a text from left to right.
type parser struct {
	text  string
	at    int
	begun int // values that have begun
}

// require panics, unless the text is right so far.
func (p *parser) require(right bool, at int, code api.Errno) {
	if !right {
		panic(fault{at, code})
	}
}

// peek returns the next byte, which must exist, and leaves it to be read.
func (p *parser) peek() byte {
	p.require(p.at < len(p.text), p.at, api.ErrShort)
	return p.text[p.at]
}

// take reads the next byte, which must be one of a set.
func (p *parser) take(set string) byte {
	c := p.peek()
	p.require(strings.IndexByte(set, c) >= 0, p.at, api.ErrForm)
	p.at++
	return c
}

func (p *parser) blanks() {
	for p.at < len(p.text) && strings.IndexByte(" \t\n\r", p.text[p.at]) >= 0 {
		p.at++
	}
}

func (p *parser) atDigit() bool {
	return p.at < len(p.text) && p.text[p.at] >= '0' && p.text[p.at] <= '9'
}

// value reads a value at a depth, and the blanks before it.
func (p *parser) value(depth int) api.Value {
	p.blanks()
	start := p.at
	first := p.take(`ntf"[{-0123456789`)
	p.require(depth <= api.MaxDepth, start, api.ErrDepth)
	p.require(p.begun < api.MaxNodes, start, api.ErrSize)
	p.begun++
	switch first {
	case 'n':
		p.rest("ull")
		return value.Null()
	case 't':
		p.rest("rue")
		return value.Bool(true)
	case 'f':
		p.rest("alse")
		return value.Bool(false)
	case '"':
		return value.Text(p.literal())
	case '[':
		return p.list(depth)
	case '{':
		return p.pairs(depth)
	}
	return p.integer(first)
}

// rest reads the bytes of a word behind its first one.
func (p *parser) rest(word string) {
	for i := range len(word) {
		p.take(word[i : i+1])
	}
}

// integer reads an integer behind its first byte.
func (p *parser) integer(first byte) api.Value {
	start := p.at - 1
	switch first {
	case '-':
		p.take("123456789")
	case '0':
		p.require(!p.atDigit(), p.at, api.ErrForm)
	}
	for p.atDigit() {
		p.at++
	}
	n, err := strconv.Atoi(p.text[start:p.at])
	p.require(err == nil, start, api.ErrRange)
	return value.Int(n)
}

// literal reads a literal behind its opening quote.
func (p *parser) literal() string {
	start := p.at - 1
	var s []byte
	for p.peek() != '"' {
		s = append(s, p.char())
	}
	p.at++
	p.require(len(s) <= api.MaxText, start, api.ErrSize)
	return string(s)
}

// char reads what stands for one byte in a literal.
func (p *parser) char() byte {
	c := p.peek()
	p.require(plain(c), p.at, api.ErrForm)
	p.at++
	if c != '\\' {
		return c
	}
	switch c = p.take(`"\ntx`); c {
	case 'n':
		return '\n'
	case 't':
		return '\t'
	case 'x':
		high := p.hex()
		return high<<4 | p.hex()
	}
	return c
}

// hex reads a hexadecimal digit.
func (p *parser) hex() byte { return byte(strings.IndexByte(hexDigits, p.take(hexDigits))) }

// list reads a list behind its opening bracket.
func (p *parser) list(depth int) api.Value {
	v := api.Value{Kind: api.VList}
	p.elements("]", func() { v.Items = append(v.Items, p.value(depth+1)) })
	return v
}

// pairs reads a map behind its opening brace. It keeps the keys ascending as they come.
func (p *parser) pairs(depth int) api.Value {
	v := api.Value{Kind: api.VMap}
	p.elements("}", func() {
		start := p.at
		p.take(`"`)
		key := p.literal()
		i, found := slices.BinarySearch(v.Keys, key)
		p.require(!found, start, api.ErrTwice)
		p.blanks()
		p.take(":")
		item := p.value(depth + 1)
		v.Keys = slices.Insert(v.Keys, i, key)
		v.Items = slices.Insert(v.Items, i, item)
	})
	return v
}

// elements reads the elements of a list or map, with the blanks and commas between them, up to the closing bracket.
func (p *parser) elements(closing string, element func()) {
	p.blanks()
	if p.peek() == closing[0] {
		p.at++
		return
	}
	for more := true; more; {
		p.blanks()
		element()
		p.blanks()
		more = p.take(","+closing) == ','
	}
}
