package token_test

import (
	"math"
	"slices"
	"strings"
	"testing"

	"workflow/api"
	"workflow/token"
)

func named(s string) api.Token   { return api.Token{Kind: api.TokName, Text: s} }
func keyword(s string) api.Token { return api.Token{Kind: api.TokKeyword, Text: s} }
func number(n int) api.Token     { return api.Token{Kind: api.TokInt, Int: n} }
func text(s string) api.Token    { return api.Token{Kind: api.TokText, Text: s} }
func sign(s string) api.Token    { return api.Token{Kind: api.TokSign, Text: s} }

// P7.2: the keywords of the chapter, and how many there are.
func TestKeyword(t *testing.T) {
	list := strings.Split(keywords, ", ")
	if len(list) != 27 {
		t.Fatalf("%d keywords", len(list))
	}
	for _, k := range list {
		if !token.Keyword(k) {
			t.Errorf("%q is no keyword", k)
		}
	}
}

// P7.2: strings that are close to a keyword, or a word of the language that is none.
func TestKeywordOfOthers(t *testing.T) {
	for _, s := range []string{
		"", " ", "main", "let ", " let", "let\n", "\tif", "Let", "LET", "iF", "_if", "if_", "if0", "int", "x", "_", "0", "=", `"if"`, "\x00", "if\x00", "i\xffif",
		"else if", "elseif", "for", "do", "in", "is", "and,", "and, await", "function", "nil", "none", "True", "False", "Null", "len", "str", "keys", "push", "put", "has", "activity", "timer",
		"child", "send", "receive", "cancellation", "now", "random", "version", "record", "done", "cancel", "cancelled", "attrs", "continueAs", "canceled", "break", "continue", "var;",
	} {
		if token.Keyword(s) {
			t.Errorf("%q is a keyword", s)
		}
	}
}

// P7.2: strings that differ from a keyword in one byte that is added, left out or replaced, or in two that change places.
func TestKeywordOfNeighbours(t *testing.T) {
	for _, k := range strings.Split(keywords, ", ") {
		for i := range len(k) + 1 {
			for c := range 256 {
				b := string([]byte{byte(c)})
				wantKeyword(t, k[:i]+b+k[i:])
				if i < len(k) {
					wantKeyword(t, k[:i]+b+k[i+1:])
				}
			}
			wantKeyword(t, k[:i])
			wantKeyword(t, k[i:])
			if i < len(k) {
				wantKeyword(t, k[:i]+k[i+1:])
			}
			if i+1 < len(k) {
				wantKeyword(t, k[:i]+k[i+1:i+2]+k[i:i+1]+k[i+2:])
			}
		}
		wantKeyword(t, strings.ToUpper(k))
		wantKeyword(t, k+k)
	}
}

func wantKeyword(t *testing.T, s string) {
	t.Helper()
	if got := token.Keyword(s); got != refKeyword(s) {
		t.Errorf("Keyword(%q) = %v", s, got)
	}
}

// P7.2: all strings of up to four small letters: only the short keywords are among them.
func TestKeywordOfShortWords(t *testing.T) {
	var found []string
	allStrings("abcdefghijklmnopqrstuvwxyz", 4, func(s string) {
		if token.Keyword(s) {
			found = append(found, s)
		}
	})
	slices.Sort(found)
	if got := strings.Join(found, " "); got != "and case else func go if let not null on or saga true try undo var" {
		t.Errorf("the short keywords: %s", got)
	}
}

// P7.3: the literals of ordinary strings.
func TestQuote(t *testing.T) {
	for s, want := range map[string]string{
		"":                   `""`,
		"a":                  `"a"`,
		"order 7":            `"order 7"`,
		`"`:                  `"\""`,
		`\`:                  `"\\"`,
		`\\`:                 `"\\\\"`,
		`\"`:                 `"\\\""`,
		`\n`:                 `"\\n"`,
		"\n":                 `"\n"`,
		"\t":                 `"\t"`,
		"\r":                 `"\x0d"`,
		"\v\f":               `"\x0b\x0c"`,
		"\a\b":               `"\x07\x08"`,
		"\x00":               `"\x00"`,
		"\x1f !":             `"\x1f !"`,
		"'`":                 "\"'`\"",
		"}~\x7f":             `"}~\x7f"`,
		"\x80\x9a\xab\xff":   `"\x80\x9a\xab\xff"`,
		"caf\u00e9":          `"caf\xc3\xa9"`,
		"\ufffd\ufeff\u2028": `"\xef\xbf\xbd\xef\xbb\xbf\xe2\x80\xa8"`,
		"a\"b\\c\nd\te":      `"a\"b\\c\nd\te"`,
		"\x0a0\x090":         `"\n0\t0"`,
		"\x01f\x10":          `"\x01f\x10"`,
	} {
		if got := token.Quote(s); got != want || got != refQuote(s) {
			t.Errorf("Quote(%q) = %s, want %s", s, got, want)
		}
	}
}

// P7.3: each of the 256 bytes alone and between others, and all strings of two bytes.
func TestQuoteOfEveryByte(t *testing.T) {
	all := make([]byte, 256)
	sizes := map[int]int{}
	for c := range 256 {
		all[c] = byte(c)
		b := string([]byte{byte(c)})
		sizes[len(token.Quote(b))]++
		for _, s := range []string{b, "a" + b, b + "0", "\\" + b + "\"", b + b + b} {
			if got := token.Quote(s); got != refQuote(s) {
				t.Errorf("Quote(%q) = %s", s, got)
			}
		}
	}
	if sizes[3] != 93 || sizes[4] != 4 || sizes[6] != 159 {
		t.Errorf("the sizes of the literals of one byte: %v", sizes)
	}
	if got := token.Quote(string(all)); got != refQuote(string(all)) {
		t.Errorf("Quote of all bytes: %s", got)
	}
	for c := range 1 << 16 {
		s := string([]byte{byte(c >> 8), byte(c)})
		one, two := token.Quote(s[:1]), token.Quote(s[1:])
		if got := token.Quote(s); got != one[:len(one)-1]+two[1:] {
			t.Fatalf("Quote(%q) = %s", s, got)
		}
	}
}

// P7.3: Quote has no limit of its own.
func TestQuoteOfLongStrings(t *testing.T) {
	for _, n := range []int{4095, 4096, 4097, 16384, 16385, 65537, 1 << 20} {
		if got := token.Quote(strings.Repeat("a", n)); got != `"`+strings.Repeat("a", n)+`"` {
			t.Errorf("Quote of %d bytes has %d", n, len(got))
		}
		if got := token.Quote(strings.Repeat("\xfe", n)); got != `"`+strings.Repeat(`\xfe`, n)+`"` {
			t.Errorf("Quote of %d bytes has %d", n, len(got))
		}
	}
}

// P7.4: no tokens, one of each kind, and several.
func TestSpell(t *testing.T) {
	for _, x := range []struct {
		l    []api.Token
		want string
	}{
		{nil, ""},
		{[]api.Token{}, ""},
		{[]api.Token{{}}, ""},
		{[]api.Token{named("x")}, "x"},
		{[]api.Token{keyword("let")}, "let"},
		{[]api.Token{sign("<=")}, "<="},
		{[]api.Token{number(0)}, "0"},
		{[]api.Token{number(10)}, "10"},
		{[]api.Token{text("")}, `""`},
		{[]api.Token{text("a\n\xff")}, `"a\n\xff"`},
		{[]api.Token{keyword("let"), named("x"), sign("="), number(10), sign(";"), {}}, "let x = 10 ;"},
		{[]api.Token{named("f"), sign("("), text("a b"), sign(","), text(`"`), sign(")")}, `f ( "a b" , "\"" )`},
		{[]api.Token{number(1), number(2), number(3)}, "1 2 3"},
		{[]api.Token{text("a"), text("b")}, `"a" "b"`},
	} {
		if got := token.Spell(x.l); got != x.want {
			t.Errorf("Spell(%v) = %q, want %q", x.l, got, x.want)
		}
	}
}

// P7.4: tokens of kinds that do not exist, and ends, are omitted with their spaces, wherever they stand.
func TestSpellOmits(t *testing.T) {
	for _, kind := range []int{0, 6, 7, 8, 9, 100, 256, 257, 258, -1, -2, -5, math.MaxInt, math.MinInt, 1 << 32, 1<<32 + 1, 1<<32 + 3} {
		other := api.Token{Kind: kind, At: 3, Text: "no", Int: 7}
		for _, x := range []struct {
			l    []api.Token
			want string
		}{
			{[]api.Token{other}, ""},
			{[]api.Token{other, other}, ""},
			{[]api.Token{other, named("a")}, "a"},
			{[]api.Token{named("a"), other}, "a"},
			{[]api.Token{named("a"), other, other, number(1)}, "a 1"},
			{[]api.Token{other, keyword("if"), other, text(" "), other, sign("{"), other}, `if " " {`},
		} {
			if got := token.Spell(x.l); got != x.want {
				t.Errorf("kind %d: Spell(%v) = %q, want %q", kind, x.l, got, x.want)
			}
		}
	}
}

// P7.4: only the field of the kind counts, and it is written whatever it holds.
func TestSpellOfOneField(t *testing.T) {
	for _, x := range []struct {
		token api.Token
		want  string
	}{
		{api.Token{Kind: api.TokName, At: 5, Text: "x", Int: 7}, "x"},
		{api.Token{Kind: api.TokKeyword, At: -5, Text: "if", Int: 7}, "if"},
		{api.Token{Kind: api.TokSign, At: 9, Text: "==", Int: 7}, "=="},
		{api.Token{Kind: api.TokInt, At: 5, Text: "x", Int: 7}, "7"},
		{api.Token{Kind: api.TokText, At: 5, Text: "x", Int: 7}, `"x"`},
		{api.Token{Kind: api.TokName, Text: "a b\"\\\n\x80"}, "a b\"\\\n\x80"},
		{api.Token{Kind: api.TokKeyword, Text: "nokeyword"}, "nokeyword"},
		{api.Token{Kind: api.TokSign, Text: "!"}, "!"},
		{api.Token{Kind: api.TokInt, Int: -1}, "-1"},
		{api.Token{Kind: api.TokInt, Int: math.MaxInt}, "9223372036854775807"},
		{api.Token{Kind: api.TokInt, Int: math.MinInt}, "-9223372036854775808"},
		{api.Token{Kind: api.TokText, Text: strings.Repeat("a", 5000)}, `"` + strings.Repeat("a", 5000) + `"`},
		{api.Token{Kind: api.TokName, Text: strings.Repeat("a", 20000)}, strings.Repeat("a", 20000)},
	} {
		if got := token.Spell([]api.Token{x.token}); got != x.want {
			t.Errorf("Spell(%v) = %q, want %q", x.token, got, x.want)
		}
	}
}

// P7.4: a token with an empty text has its space, before and behind it, unlike one that is omitted.
func TestSpellOfEmptyTexts(t *testing.T) {
	for _, empty := range []api.Token{named(""), keyword(""), sign("")} {
		for _, x := range []struct {
			l    []api.Token
			want string
		}{
			{[]api.Token{empty}, ""},
			{[]api.Token{empty, {}}, ""},
			{[]api.Token{empty, empty}, " "},
			{[]api.Token{empty, {}, empty, empty}, "  "},
			{[]api.Token{empty, number(1)}, " 1"},
			{[]api.Token{number(1), empty}, "1 "},
			{[]api.Token{number(-1), empty, text("")}, `-1  ""`},
		} {
			if got := token.Spell(x.l); got != x.want {
				t.Errorf("Spell(%v) = %q, want %q", x.l, got, x.want)
			}
		}
	}
}

// P7.4: all lists of up to four tokens of each kind.
func TestSpellOfShortLists(t *testing.T) {
	pieces := []api.Token{{Text: "end"}, named("n"), keyword("k"), number(-12), text("\"\x00"), sign("%"), {Kind: 6, Text: "six", Int: 6}}
	allStrings("0123456", 4, func(s string) {
		var l []api.Token
		for _, c := range s {
			l = append(l, pieces[c-'0'])
		}
		if got := token.Spell(l); got != refSpell(l) {
			t.Fatalf("Spell(%v) = %q, want %q", l, got, refSpell(l))
		}
	})
}

// P7.4: numbers at the bounds of 64 bits and around the powers of 10 and of 2.
func TestSpellOfNumbers(t *testing.T) {
	ints := []int{math.MaxInt, math.MinInt, math.MaxInt - 1, math.MinInt + 1}
	for shift := range 63 {
		ints = append(ints, 1<<shift-1, 1<<shift, -1<<shift, 1-1<<shift)
	}
	for power, i := 1, 0; i < 18; i++ {
		power *= 10
		ints = append(ints, power-1, power, power+1, -power, 1-power)
	}
	for _, n := range ints {
		if l := []api.Token{number(n)}; token.Spell(l) != refSpell(l) {
			t.Errorf("Spell of %d: %s", n, token.Spell(l))
		}
	}
}

// P7.4: a list of many tokens.
func TestSpellOfLongLists(t *testing.T) {
	l := slices.Repeat([]api.Token{named("ab"), {}, number(12), sign("+")}, 20000)
	if got := token.Spell(l); got != strings.TrimSuffix(strings.Repeat("ab 12 + ", 20000), " ") {
		t.Errorf("Spell of a long list has %d bytes", len(got))
	}
}
