package vtext_test

import (
	"fmt"
	"math"
	"strings"
	"testing"

	"workflow/api"
	"workflow/value"
	"workflow/vtext"
)

// wantParse compares what Parse returns for a text.
func wantParse(t *testing.T, s string, v api.Value, at int, e api.Errno) {
	t.Helper()
	gotV, gotAt, gotE := vtext.Parse(s)
	if gotAt != at || gotE != e || !value.Same(gotV, v) {
		t.Errorf("Parse(%.80q) = %v, %d, %d; want %v, %d, %d", s, gotV, gotAt, gotE, v, at, e)
	}
}

// P3.1, P3.2: Parse reads back what Print writes.
func TestParsePrinted(t *testing.T) {
	for s, v := range printed() {
		wantParse(t, s, v, 0, api.OK)
	}
	for s, v := range atLimits() {
		wantParse(t, s, v, 0, api.OK)
	}
	wantParse(t, vtext.Quote(anyByte()), text(anyByte()), 0, api.OK)
	wantParse(t, `{`+vtext.Quote(anyByte())+`:0}`, pairs(anyByte(), integer(0)), 0, api.OK)
}

// P3.1: in a literal, every byte that stands for itself, every escape, and nothing else.
func TestParseLiteralBytes(t *testing.T) {
	escapes := map[byte]string{'"': `"`, '\\': `\`, 'n': "\n", 't': "\t"}
	digits := "0123456789abcdef"
	for c := range everyByte {
		s := string([]byte{c})
		switch {
		case c == '"':
			wantParse(t, `"ab"c"`, null(), 4, api.ErrForm)
		case c == '\\':
		case c >= 32 && c <= 126:
			wantParse(t, `"a`+s+`b"`, text("a"+s+"b"), 0, api.OK)
		default:
			wantParse(t, `"a`+s+`b"`, null(), 2, api.ErrForm)
			wantParse(t, `{"a`+s, null(), 3, api.ErrForm)
		}
		if stands, ok := escapes[c]; ok {
			wantParse(t, `"a\`+s+`b"`, text("a"+stands+"b"), 0, api.OK)
		} else if c != 'x' {
			wantParse(t, `"a\`+s+`b"`, null(), 3, api.ErrForm)
		}
		if strings.Contains(digits, s) {
			n := byte(strings.Index(digits, s))
			wantParse(t, `"\x`+s+`3"`, text(string([]byte{n*16 + 3})), 0, api.OK)
			wantParse(t, `"\x3`+s+`"`, text(string([]byte{3*16 + n})), 0, api.OK)
		} else {
			wantParse(t, `"\x`+s+`3"`, null(), 3, api.ErrForm)
			wantParse(t, `"\x3`+s+`"`, null(), 4, api.ErrForm)
		}
	}
	for c := range everyByte {
		wantParse(t, fmt.Sprintf(`"\x%02x"`, c), text(string([]byte{c})), 0, api.OK)
	}
	wantParse(t, `"\x41"`, text("A"), 0, api.OK)
	wantParse(t, `"\x411"`, text("A1"), 0, api.OK)
}

// P3.1: each byte that can begin a value or follow one, and no other.
func TestParseFirstBytes(t *testing.T) {
	for c := range everyByte {
		s := string([]byte{c})
		blank := strings.Contains(" \t\n\r", s)
		switch {
		case blank || strings.Contains(`ntf"[{-`, s):
			wantParse(t, s, null(), 1, api.ErrShort)
		case c >= '0' && c <= '9':
			wantParse(t, s, integer(int(c-'0')), 0, api.OK)
		default:
			wantParse(t, s, null(), 0, api.ErrForm)
			wantParse(t, "[1, "+s, null(), 4, api.ErrForm)
			wantParse(t, `{"a":`+s, null(), 5, api.ErrForm)
		}
		if blank {
			wantParse(t, "true"+s, boolean(1), 0, api.OK)
			continue
		}
		wantParse(t, "true"+s, null(), 4, api.ErrForm)
		wantParse(t, "1 "+s, null(), 2, api.ErrForm)
		wantParse(t, "[] "+s+" 1", null(), 3, api.ErrForm)
		if c != ',' && c != ']' {
			wantParse(t, "[1 "+s, null(), 3, api.ErrForm)
		}
		if c != ',' && c != '}' {
			wantParse(t, `{"a":1 `+s, null(), 7, api.ErrForm)
		}
		if c != ':' {
			wantParse(t, `{"a" `+s, null(), 5, api.ErrForm)
		}
		if c != '"' {
			wantParse(t, `{"a":1,`+s, null(), 7, api.ErrForm)
		}
		if c != '"' && c != '}' {
			wantParse(t, `{ `+s, null(), 2, api.ErrForm)
		}
	}
}

// P3.1: integers at and beyond the bounds of 64 bits, and malformed ones.
func TestParseIntegers(t *testing.T) {
	for s, n := range map[string]int{"0": 0, "1": 1, "-1": -1, "90": 90, "-100": -100, "9223372036854775806": math.MaxInt - 1,
		"9223372036854775807": math.MaxInt, "-9223372036854775807": -math.MaxInt, "-9223372036854775808": math.MinInt} {
		wantParse(t, s, integer(n), 0, api.OK)
		wantParse(t, "["+s+"]", list(integer(n)), 0, api.OK)
		wantParse(t, s+"x", null(), len(s), api.ErrForm)
	}
	for _, s := range []string{"9223372036854775808", "-9223372036854775809", "10000000000000000000", "18446744073709551616",
		"-18446744073709551615", "-10000000000000000000", "99999999999999999999999", strings.Repeat("1234567890", 5000)} {
		for _, end := range []string{"", " ", "x", "]", "-", ".5", "\x00"} {
			wantParse(t, s+end, null(), 0, api.ErrRange)
			wantParse(t, " \n"+s+end, null(), 2, api.ErrRange)
			wantParse(t, `{"a": [1,`+s+end, null(), 9, api.ErrRange)
		}
	}
	for s, at := range map[string]int{"00": 1, "01": 1, "09223372036854775808": 1, "-0": 1, "-00": 1, "-01": 1, "--1": 1, "- 1": 1, "-a": 1, "-]": 1,
		"+1": 0, "1.0": 1, "1e3": 1, "0x1": 1, "1-1": 1, "0-": 1, "1 2": 2, "12 3": 3, "1_000": 1, ".5": 0} {
		wantParse(t, s, null(), at, api.ErrForm)
		wantParse(t, "["+s, null(), at+1, api.ErrForm)
	}
	wantParse(t, `{"a": 01}`, null(), 7, api.ErrForm)
	wantParse(t, "-", null(), 1, api.ErrShort)
	wantParse(t, "[-", null(), 2, api.ErrShort)
}

// P3.1: the words, written in full and in lower case.
func TestParseWords(t *testing.T) {
	for word, v := range map[string]api.Value{"null": null(), "true": boolean(1), "false": boolean(0)} {
		wantParse(t, word, v, 0, api.OK)
		wantParse(t, "["+word+"]", list(v), 0, api.OK)
		for i := range word {
			wantParse(t, word[:i], null(), i, api.ErrShort)
			if i > 0 {
				wantParse(t, word[:i]+" "+word[i:], null(), i, api.ErrForm)
			}
			for c := range everyByte {
				if s := word[:i] + string([]byte{c}); c != word[i] && i > 0 {
					wantParse(t, s, null(), i, api.ErrForm)
					wantParse(t, s+word[i:], null(), i, api.ErrForm)
				}
			}
		}
		wantParse(t, strings.ToUpper(word), null(), 0, api.ErrForm)
		wantParse(t, word+word, null(), len(word), api.ErrForm)
	}
}

// P3.1: ErrShort at the length of every text that ends where something must follow.
func TestParseShort(t *testing.T) {
	for _, s := range []string{`{"a\n\x07": [null, true, {}], "b": -5, "c": [[], {"d": "\"\\"}]}`, " [ \"a\" , { \"b\" : [ -1 ] } ] ", `"\x41\t"`} {
		end := len(strings.TrimRight(s, " "))
		for i := range end {
			wantParse(t, s[:i], null(), i, api.ErrShort)
			wantParse(t, " \r"+s[:i], null(), i+2, api.ErrShort)
		}
		if _, at, e := vtext.Parse(s); at != 0 || e != api.OK {
			t.Errorf("Parse(%q) fails with %d, %d", s, at, e)
		}
	}
	wantParse(t, "", null(), 0, api.ErrShort)
	wantParse(t, " \t\n\r", null(), 4, api.ErrShort)
	wantParse(t, "[1,", null(), 3, api.ErrShort)
	wantParse(t, `"`+long(2*api.MaxText), null(), 2*api.MaxText+1, api.ErrShort)
}

// P3.1: the depth is limited, at the first byte of the value that is nested too deeply.
func TestParseDepth(t *testing.T) {
	open := strings.Repeat("[", api.MaxDepth)
	wantParse(t, open+strings.Repeat("]", api.MaxDepth), func() api.Value {
		v := list()
		for range api.MaxDepth - 1 {
			v = list(v)
		}
		return v
	}(), 0, api.OK)
	for c := range everyByte {
		s := string([]byte{c})
		switch {
		case strings.Contains(`ntf"[{-0123456789`, s):
			wantParse(t, open+s, null(), api.MaxDepth, api.ErrDepth)
			wantParse(t, open+" "+s+"!", null(), api.MaxDepth+1, api.ErrDepth)
		case strings.Contains(" \t\n\r]", s):
			wantParse(t, open+s, null(), api.MaxDepth+1, api.ErrShort)
		default:
			wantParse(t, open+s, null(), api.MaxDepth, api.ErrForm)
		}
	}
	maps := strings.Repeat(`{"a":`, api.MaxDepth)
	wantParse(t, maps, null(), len(maps), api.ErrShort)
	wantParse(t, maps+"1", null(), len(maps), api.ErrDepth)
	wantParse(t, maps+"}", null(), len(maps), api.ErrForm)
	wantParse(t, strings.Repeat("[", 1<<20), null(), api.MaxDepth, api.ErrDepth)
	wantParse(t, strings.Repeat("[1,", 1<<20), null(), 3*(api.MaxDepth-1)+1, api.ErrDepth)
	wantParse(t, "[[],"+open, null(), 4+api.MaxDepth-1, api.ErrDepth)
}

// P3.1: the number of values is limited, at the first byte of the one that is too many; keys do not count.
func TestParseNodes(t *testing.T) {
	full := "[" + strings.Repeat("1,", api.MaxNodes-2) + "1"
	wantParse(t, full+",", null(), len(full)+1, api.ErrShort)
	for c := range everyByte {
		s := string([]byte{c})
		switch {
		case strings.Contains(`ntf"[{-0123456789`, s):
			wantParse(t, full+","+s, null(), len(full)+1, api.ErrSize)
			wantParse(t, full+" ,\n"+s+"!", null(), len(full)+3, api.ErrSize)
		case !strings.Contains(" \t\n\r", s):
			wantParse(t, full+","+s, null(), len(full)+1, api.ErrForm)
		}
	}
	wantParse(t, full+","+strings.Repeat("9", 30), null(), len(full)+1, api.ErrSize)
	wantParse(t, full[:len(full)-1]+strings.Repeat("9", 30)+",1]", null(), len(full)-1, api.ErrRange)
	keys := "{"
	for i := range api.MaxNodes - 1 {
		keys += fmt.Sprintf(`"%d": %d,`, i, i)
	}
	wantParse(t, keys+`"x":`, null(), len(keys)+4, api.ErrShort)
	wantParse(t, keys+`"x": 1}`, null(), len(keys)+5, api.ErrSize)
	wantParse(t, keys+`"7": 1}`, null(), len(keys), api.ErrTwice)
	nested := "[" + strings.Repeat("[[]],", api.MaxNodes/2-1)
	wantParse(t, nested+"[", null(), len(nested)+1, api.ErrShort)
	wantParse(t, nested+"[[", null(), len(nested)+1, api.ErrSize)
	deepest := strings.Repeat("[", api.MaxDepth) + strings.Repeat("]", api.MaxDepth-1)
	deepest += strings.Repeat(",1", api.MaxNodes-api.MaxDepth) + "]"
	if v, at, e := vtext.Parse(deepest); at != 0 || e != api.OK || value.Size(v) != api.MaxNodes || value.Depth(v) != api.MaxDepth {
		t.Errorf("at both limits: %d, %d", at, e)
	}
	last := "[" + strings.Repeat("1,", api.MaxNodes-api.MaxDepth) + strings.Repeat("[", api.MaxDepth-1)
	wantParse(t, last, null(), len(last), api.ErrShort)
	wantParse(t, last+"1", null(), len(last), api.ErrDepth)
	wantParse(t, last+"],1", null(), len(last)+2, api.ErrSize)
}

// P3.1: a literal is limited by the bytes that it stands for, at its opening quote, once its closing quote is met.
func TestParseLongLiterals(t *testing.T) {
	for _, unit := range []struct{ written, stands string }{{"x", "x"}, {`\\`, `\`}, {`\n`, "\n"}, {`\x80`, "\x80"}} {
		limit := strings.Repeat(unit.written, api.MaxText)
		wantParse(t, `"`+limit+`"`, text(strings.Repeat(unit.stands, api.MaxText)), 0, api.OK)
		wantParse(t, `{"`+limit+`":"`+limit+`"}`, pairs(strings.Repeat(unit.stands, api.MaxText), text(strings.Repeat(unit.stands, api.MaxText))), 0, api.OK)
		beyond := limit + unit.written
		wantParse(t, `"`+beyond+`"`, null(), 0, api.ErrSize)
		wantParse(t, `"`+beyond+`"!`, null(), 0, api.ErrSize)
		wantParse(t, `"`+beyond, null(), 1+len(beyond), api.ErrShort)
		wantParse(t, `"`+beyond+"\n", null(), 1+len(beyond), api.ErrForm)
		wantParse(t, `["", "`+beyond+`"`, null(), 5, api.ErrSize)
		wantParse(t, `{"`+beyond+`"`, null(), 1, api.ErrSize)
		wantParse(t, `{"`+beyond+`" 1`, null(), 1, api.ErrSize)
		wantParse(t, `{"a": "`+beyond+`"`, null(), 6, api.ErrSize)
		wantParse(t, `{"`+limit+`": 1, "`+limit+`": 1}`, null(), len(limit)+8, api.ErrTwice)
	}
}

// P3.1: the keys of a map come in any order, and each of them once.
func TestParseKeys(t *testing.T) {
	want := pairs("", integer(0), "A", integer(1), "a", integer(2), "a\x00", integer(3), "ab", integer(4), "b", integer(5), "\xff", integer(6))
	order := []int{0, 1, 2, 3, 4, 5, 6}
	permute(order, 0, func() {
		var elements []string
		for _, i := range order {
			elements = append(elements, vtext.Quote(want.Keys[i])+": "+fmt.Sprint(i))
		}
		s := "{" + strings.Join(elements, ",")
		if v, at, e := vtext.Parse(s + "}"); at != 0 || e != api.OK || !value.Same(v, want) {
			t.Errorf("Parse(%q}) = %v, %d, %d", s, v, at, e)
		}
		for i := range order {
			if v, at, e := vtext.Parse(s + " , " + vtext.Quote(want.Keys[i])); !value.Same(v, null()) || at != len(s)+3 || e != api.ErrTwice {
				t.Errorf("Parse of %q and the key %d again = %v, %d, %d", s, i, v, at, e)
			}
		}
	})
	wantParse(t, `{"a": 1, "a": 2}`, null(), 9, api.ErrTwice)
	wantParse(t, `{"a": 1, "\x61"`, null(), 9, api.ErrTwice)
	wantParse(t, `{"a": 1, "a"!`, null(), 9, api.ErrTwice)
	wantParse(t, `{"a": 1, "a`, null(), 11, api.ErrShort)
	wantParse(t, `{"a": 1, "a`+"\t", null(), 11, api.ErrForm)
	wantParse(t, `[{"a": 1}, {"a": {"a": 1, "b": {"b": 1}}, "b": 1}]`,
		list(pairs("a", integer(1)), pairs("a", pairs("a", integer(1), "b", pairs("b", integer(1))), "b", integer(1))), 0, api.OK)
	wantParse(t, `{"a": {"b": 1}, "b": {"b": 1, "a": 2, "b": 3}}`, null(), 38, api.ErrTwice)
	wantParse(t, `{"b": {"a": 1}, "a": 1, "b": 1}`, null(), 24, api.ErrTwice)
}

// permute calls use for every order of the elements from index from on.
func permute(order []int, from int, use func()) {
	if from == len(order) {
		use()
	}
	for i := from; i < len(order); i++ {
		order[from], order[i] = order[i], order[from]
		permute(order, from+1, use)
		order[from], order[i] = order[i], order[from]
	}
}

// P3.1: other malformed texts, each at the first byte that cannot continue it.
func TestParseMalformed(t *testing.T) {
	for s, at := range map[string]int{
		`[1,]`: 3, `[,1]`: 1, `[1,,2]`: 3, `[1 2]`: 3, `[1;2]`: 2, `[1}`: 2, `[1:2]`: 2, `]`: 0, `[][]`: 2, `[] []`: 3,
		`{1: 2}`: 1, `{a: 1}`: 1, `{"a"}`: 4, `{"a" 1}`: 5, `{"a": }`: 6, `{"a":, "b": 1}`: 5, `{"a": 1,}`: 8, `{,}`: 1, `{"a": 1]`: 7, `{"a": 1 "b": 2}`: 8,
		`{"a": 1: 2}`: 7, `{"a":: 1}`: 5, `{null: 1}`: 1, `{["a"]: 1}`: 1, `{"a": 1, 2}`: 9, `{"a", "b"}`: 4, `{}}`: 2, `{ ]`: 2, `[ }`: 2,
		`'a'`: 0, `"a" "b"`: 4, `"a"b`: 3, "\"a\nb\"": 2, `"\u0041"`: 2, `"\X41"`: 2, `"\x4` + `A"`: 4, `"\x 41"`: 3, `"\ "`: 2, `"\/"`: 2, `"\r"`: 2, `"\'"`: 2,
		"\v1": 0, "\u00a01": 0, "\ufeff1": 0, "1\x00": 1, "1\f": 1, "/**/1": 0, "1//": 1, "# 1": 0, "nil": 1, "True": 0, "NaN": 0, "tru e": 3, "f0": 1,
	} {
		wantParse(t, s, null(), at, api.ErrForm)
		wantParse(t, "[\r\n[true, "+s, null(), at+10, api.ErrForm)
	}
	wantParse(t, `[]]`, null(), 2, api.ErrForm)
}
