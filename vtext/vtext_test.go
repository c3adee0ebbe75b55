package vtext_test

import (
	"fmt"
	"math"
	"slices"
	"strings"
	"testing"

	"workflow/api"
	"workflow/value"
	"workflow/vtext"
)

func list(items ...api.Value) api.Value { return api.Value{Kind: api.VList, Items: items} }

// pairs builds a map by hand from keys and items in turn, in the order in which they are given.
func pairs(all ...any) api.Value {
	v := api.Value{Kind: api.VMap}
	for i := 0; i < len(all); i += 2 {
		v.Keys = append(v.Keys, all[i].(string))
		v.Items = append(v.Items, all[i+1].(api.Value))
	}
	return v
}

func null() api.Value         { return api.Value{} }
func boolean(n int) api.Value { return api.Value{Kind: api.VBool, Int: n} }
func integer(n int) api.Value { return api.Value{Kind: api.VInt, Int: n} }
func text(s string) api.Value { return api.Value{Kind: api.VText, Text: s} }
func long(size int) string    { return strings.Repeat("x", size) }
func nodes(n int) api.Value   { return list(make([]api.Value, n-1)...) }
func anyByte() string         { return string(slices.Collect(everyByte)) }
func everyByte(f func(byte) bool) {
	for c := 0; c < 256 && f(byte(c)); c++ {
	}
}

// deep returns lists within lists, of a depth in all, around null.
func deep(depth int) api.Value {
	v := null()
	for range depth - 1 {
		v = list(v)
	}
	return v
}

// printed pairs payloads with their canonical forms, which are written by hand.
func printed() map[string]api.Value {
	return map[string]api.Value{
		`null`:                         null(),
		`true`:                         boolean(1),
		`false`:                        boolean(0),
		`0`:                            integer(0),
		`7`:                            integer(7),
		`-5`:                           integer(-5),
		`10`:                           integer(10),
		`1234567890`:                   integer(1234567890),
		`9223372036854775807`:          integer(math.MaxInt),
		`-9223372036854775808`:         integer(math.MinInt),
		`""`:                           text(""),
		`"A"`:                          text("A"),
		`"null"`:                       text("null"),
		`" a  b "`:                     text(" a  b "),
		`"a\n\x07"`:                    text("a\n\x07"),
		`"\"\\\n\t"`:                   text("\"\\\n\t"),
		`"\x00\x1f ~\x7f\x80\xff"`:     text("\x00\x1f ~\x7f\x80\xff"),
		`"\\x41/'"`:                    text(`\x41/'`),
		`"\x0d\x0b\xc3\xa4"`:           text("\r\vä"),
		`[]`:                           list(),
		`[1, 2]`:                       list(integer(1), integer(2)),
		`[[], [[]], {}]`:               list(list(), list(list()), pairs()),
		`[null, true, false, "x", -1]`: list(null(), boolean(1), boolean(0), text("x"), integer(-1)),
		`{}`:                           pairs(),
		`{"": ""}`:                     pairs("", text("")),
		`{"a": 1, "b": 2}`:             pairs("a", integer(1), "b", integer(2)),
		`{"a": [null, true], "b": -5}`: pairs("a", list(null(), boolean(1)), "b", integer(-5)),
		`{"\x00": 0, "\n": 1, "\"": 2, "\xff": 3}`: pairs("\x00", integer(0), "\n", integer(1), `"`, integer(2), "\xff", integer(3)),
		`{"a": {"a": {"a": []}}, "ab": [{}]}`:      pairs("a", pairs("a", pairs("a", list())), "ab", list(pairs())),
	}
}

// atLimits returns payloads that reach a limit, by their canonical forms.
func atLimits() map[string]api.Value {
	numbered, all := pairs(), []string{}
	for i := range api.MaxNodes - 1 {
		key := fmt.Sprintf("k%03d", i)
		numbered.Keys, numbered.Items = append(numbered.Keys, key), append(numbered.Items, integer(-i))
		all = append(all, fmt.Sprintf("%q: %d", key, -i))
	}
	return map[string]api.Value{
		`"` + long(api.MaxText) + `"`:                                                      text(long(api.MaxText)),
		`"` + strings.Repeat(`\xff`, api.MaxText) + `"`:                                    text(strings.Repeat("\xff", api.MaxText)),
		`{"` + long(api.MaxText) + `": 1}`:                                                 pairs(long(api.MaxText), integer(1)),
		`[` + strings.Repeat("null, ", api.MaxNodes-2) + `null]`:                           nodes(api.MaxNodes),
		`{` + strings.Join(all, ", ") + `}`:                                                numbered,
		strings.Repeat("[", api.MaxDepth-1) + "null" + strings.Repeat("]", api.MaxDepth-1): deep(api.MaxDepth),
		strings.Repeat(`{"a": `, api.MaxDepth-1) + "{}" + strings.Repeat("}", api.MaxDepth-1): func() api.Value {
			v := pairs()
			for range api.MaxDepth - 1 {
				v = pairs("a", v)
			}
			return v
		}(),
	}
}

// P3.1: Quote escapes the bytes that the chapter lists, and writes all others as themselves.
func TestQuote(t *testing.T) {
	inner := map[byte]string{'"': `\"`, '\\': `\\`, '\n': `\n`, '\t': `\t`}
	for c := range everyByte {
		want, special := inner[c]
		switch {
		case special:
		case c >= 32 && c <= 126:
			want = string(rune(c))
		default:
			want = fmt.Sprintf(`\x%02x`, c)
		}
		inner[c] = want
		if s := vtext.Quote(string([]byte{c})); s != `"`+want+`"` {
			t.Errorf("Quote of the byte %d is %s", c, s)
		}
	}
	for a := range everyByte {
		for b := range everyByte {
			if s := vtext.Quote(string([]byte{a, b})); s != `"`+inner[a]+inner[b]+`"` {
				t.Fatalf("Quote of the bytes %d and %d is %s", a, b, s)
			}
		}
	}
	for s, want := range map[string]string{"": `""`, string([]byte{97, 10, 7}): `"a\n\x07"`, "ä\u2028": `"\xc3\xa4\xe2\x80\xa8"`,
		`\n`: `"\\n"`, long(100000): `"` + long(100000) + `"`} {
		if got := vtext.Quote(s); got != want {
			t.Errorf("Quote(%.40q) = %.80s", s, got)
		}
	}
}

// P3.1: Print writes the canonical form of every kind of payload.
func TestPrint(t *testing.T) {
	for want, v := range printed() {
		if s, e := vtext.Print(v); s != want || e != api.OK {
			t.Errorf("Print(%v) = %s, %d; want %s", v, s, e, want)
		}
	}
	for want, v := range atLimits() {
		if s, e := vtext.Print(v); s != want || e != api.OK {
			t.Errorf("Print at a limit = %.80s, %d; want %.80s", s, e, want)
		}
	}
}

// P3.1: Print takes only valid payloads.
func TestPrintErrors(t *testing.T) {
	future := api.Value{Kind: api.VFuture}
	bad := map[string]api.Value{
		"future":           future,
		"kind 7":           {Kind: 7},
		"kind -1":          {Kind: -1},
		"boolean 2":        boolean(2),
		"null with Int":    {Int: 1},
		"null with Text":   {Text: "x"},
		"integer, Items":   {Kind: api.VInt, Items: []api.Value{{}}},
		"list with Keys":   {Kind: api.VList, Keys: []string{"a"}},
		"fewer items":      {Kind: api.VMap, Keys: []string{"a", "b"}, Items: make([]api.Value, 1)},
		"fewer keys":       {Kind: api.VMap, Keys: []string{"a"}, Items: make([]api.Value, 2)},
		"no keys":          {Kind: api.VMap, Items: make([]api.Value, 1)},
		"equal keys":       pairs("a", null(), "a", null()),
		"descending keys":  pairs("b", null(), "a", null()),
		"long text":        text(long(api.MaxText + 1)),
		"long key":         pairs(long(api.MaxText+1), null()),
		"too many nodes":   nodes(api.MaxNodes + 1),
		"too deep":         deep(api.MaxDepth + 1),
		"far too deep":     deep(10000),
		"more inner nodes": list(nodes(500), nodes(500)),
	}
	for name, v := range bad {
		for _, v := range []api.Value{v, list(null(), v), pairs("a", integer(1), "b", v)} {
			if s, e := vtext.Print(v); s != "" || e != api.ErrArg {
				t.Errorf("Print of %s = %.80q, %d", name, s, e)
			}
		}
	}
}

// P3.1: Print changes nothing in its argument, and ignores what lies behind the lengths of its slices.
func TestPrintMemory(t *testing.T) {
	v := pairs("a", list(integer(1), integer(2)), "b", text("x"), "c", null())
	v.Keys, v.Items = v.Keys[:2], v.Items[:2]
	v.Items[0].Items = v.Items[0].Items[:1]
	if s, e := vtext.Print(v); s != `{"a": [1], "b": "x"}` || e != api.OK {
		t.Errorf("Print = %s, %d", s, e)
	}
	whole := api.Value{Kind: api.VMap, Keys: v.Keys[:3], Items: v.Items[:3]}
	whole.Items[0].Items = whole.Items[0].Items[:2]
	if want := pairs("a", list(integer(1), integer(2)), "b", text("x"), "c", null()); !value.Same(whole, want) {
		t.Errorf("after Print, the memory of the argument is %v", whole)
	}
}
