package vtext_test

import (
	"maps"
	"math/big"
	"slices"
	"strings"

	"workflow/api"
)

// machine reads a text byte by byte, without recursion, to compare Parse with. Its state says what may come next.
type machine struct {
	state   string
	open    []*opened
	begun   int
	written string // what has been read of a word, an integer or a literal
	stands  []byte // what the literal stands for
	start   int    // the first byte of the word, integer or literal
	isKey   bool
	mixed   bool // the keys of a map are not ascending
	result  api.Value
	errAt   int
	err     api.Errno
}

// opened is a list or a map that is not closed yet.
type opened struct {
	isMap bool
	items []api.Value
	keys  []string
}

const (
	someBlanks = " \t\n\r"
	allDigits  = "0123456789"
)

// read reads a whole text.
func read(s string) *machine {
	m := &machine{state: "value"}
	for i := 0; i < len(s) && m.err == api.OK; i++ {
		m.next(i, s[i])
	}
	if m.err == api.OK && (m.state == "digits" || m.state == "zero") {
		m.endInteger()
	}
	if m.err == api.OK && m.state != "end" {
		m.fail(len(s), api.ErrShort)
	}
	return m
}

// referenceParse is what the chapter says of Parse, step by step.
func referenceParse(s string) (api.Value, int, api.Errno) {
	m := read(s)
	if m.err != api.OK {
		return api.Value{}, m.errAt, m.err
	}
	return m.result, 0, api.OK
}

func (m *machine) fail(at int, e api.Errno) { m.errAt, m.err = at, e }

// next reads the byte c, which is the byte i of the text.
func (m *machine) next(i int, c byte) {
	is := func(set string) bool { return strings.Contains(set, string([]byte{c})) }
	switch m.state {
	case "word":
		m.word(i, c)
		return
	case "minus":
		if m.state = "digits"; is("123456789") {
			m.written += string(c)
		} else {
			m.fail(i, api.ErrForm)
		}
		return
	case "digits", "zero":
		if is(allDigits) {
			if m.state == "zero" {
				m.fail(i, api.ErrForm)
			}
			m.written += string(c)
			return
		}
		if m.endInteger(); m.err != api.OK {
			return
		}
	case "literal", "escape", "hex":
		m.literal(i, c)
		return
	}
	if is(someBlanks) {
		return
	}
	switch {
	case m.state == "first" && is("]"), m.state == "firstKey" && is("}"):
		m.close()
	case m.state == "value" || m.state == "first":
		m.begin(i, c)
	case (m.state == "key" || m.state == "firstKey") && is(`"`):
		m.state, m.isKey, m.start, m.written, m.stands = "literal", true, i, "", nil
	case m.state == "colon" && is(":"):
		m.state = "value"
	case m.state == "list" && is("]"), m.state == "map" && is("}"):
		m.close()
	case m.state == "list" && is(","):
		m.state = "value"
	case m.state == "map" && is(","):
		m.state = "key"
	default:
		m.fail(i, api.ErrForm)
	}
}

// begin begins a value with the byte c.
func (m *machine) begin(i int, c byte) {
	m.start, m.written, m.stands, m.isKey = i, string([]byte{c}), nil, false
	states := map[byte]string{'n': "word", 't': "word", 'f': "word", '"': "literal", '[': "first", '{': "firstKey", '-': "minus", '0': "zero"}
	for _, digit := range []byte("123456789") {
		states[digit] = "digits"
	}
	state, ok := states[c]
	switch m.begun++; {
	case !ok:
		m.fail(i, api.ErrForm)
	case len(m.open)+1 > api.MaxDepth:
		m.fail(i, api.ErrDepth)
	case m.begun > api.MaxNodes:
		m.fail(i, api.ErrSize)
	}
	m.state = state
	if c == '[' || c == '{' {
		m.open = append(m.open, &opened{isMap: c == '{'})
	}
}

func (m *machine) word(i int, c byte) {
	m.written += string([]byte{c})
	words := map[string]api.Value{"null": {}, "true": {Kind: api.VBool, Int: 1}, "false": {Kind: api.VBool}}
	if v, ok := words[m.written]; ok {
		m.end(v)
		return
	}
	for word := range words {
		if strings.HasPrefix(word, m.written) {
			return
		}
	}
	m.fail(i, api.ErrForm)
}

func (m *machine) endInteger() {
	n, _ := new(big.Int).SetString(m.written, 10)
	if !n.IsInt64() {
		m.fail(m.start, api.ErrRange)
		return
	}
	m.end(api.Value{Kind: api.VInt, Int: int(n.Int64())})
}

// literal reads a byte of a literal; written holds what has been read of an escape.
func (m *machine) literal(i int, c byte) {
	switch {
	case m.state == "escape" && c == 'x':
		m.state, m.written = "hex", ""
	case m.state == "escape":
		stands, ok := map[byte]byte{'"': '"', '\\': '\\', 'n': 10, 't': 9}[c]
		if !ok {
			m.fail(i, api.ErrForm)
		}
		m.state, m.stands = "literal", append(m.stands, stands)
	case m.state == "hex":
		if !strings.Contains("0123456789abcdef", string([]byte{c})) {
			m.fail(i, api.ErrForm)
			return
		}
		if m.written += string([]byte{c}); len(m.written) == 2 {
			n, _ := new(big.Int).SetString(m.written, 16)
			m.state, m.stands = "literal", append(m.stands, byte(n.Int64()))
		}
	case c == '"':
		m.endLiteral()
	case c == '\\':
		m.state = "escape"
	case c < 32 || c > 126:
		m.fail(i, api.ErrForm)
	default:
		m.stands = append(m.stands, c)
	}
}

func (m *machine) endLiteral() {
	if len(m.stands) > api.MaxText {
		m.fail(m.start, api.ErrSize)
		return
	}
	if !m.isKey {
		m.end(api.Value{Kind: api.VText, Text: string(m.stands)})
		return
	}
	in := m.open[len(m.open)-1]
	if slices.Contains(in.keys, string(m.stands)) {
		m.fail(m.start, api.ErrTwice)
	}
	in.keys = append(in.keys, string(m.stands))
	m.state = "colon"
}

// close ends the innermost list or map.
func (m *machine) close() {
	in := m.open[len(m.open)-1]
	m.open = m.open[:len(m.open)-1]
	if !in.isMap {
		m.end(api.Value{Kind: api.VList, Items: in.items})
		return
	}
	m.mixed = m.mixed || !slices.IsSorted(in.keys)
	items := map[string]api.Value{}
	for i, key := range in.keys {
		items[key] = in.items[i]
	}
	v := api.Value{Kind: api.VMap, Keys: slices.Sorted(maps.Keys(items))}
	for _, key := range v.Keys {
		v.Items = append(v.Items, items[key])
	}
	m.end(v)
}

// end ends a value.
func (m *machine) end(v api.Value) {
	if len(m.open) == 0 {
		m.state, m.result = "end", v
		return
	}
	in := m.open[len(m.open)-1]
	in.items = append(in.items, v)
	m.state = "list"
	if in.isMap {
		m.state = "map"
	}
}
