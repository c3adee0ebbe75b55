package token_test

import (
	"slices"
	"strings"
	"testing"

	"workflow/api"
	"workflow/token"
)

// allStrings calls f with all strings of at most size bytes of an alphabet.
func allStrings(alphabet string, size int, f func(s string)) { extend("", alphabet, size, f) }

// extend calls f with s and with all strings that continue it by at most size bytes of an alphabet.
func extend(s, alphabet string, size int, f func(s string)) {
	f(s)
	if size == 0 {
		return
	}
	for i := range len(alphabet) {
		extend(s+alphabet[i:i+1], alphabet, size-1, f)
	}
}

// short shortens a text for a message.
func short(s string) string {
	if len(s) > 60 {
		return s[:30] + ".." + s[len(s)-30:]
	}
	return s
}

// compare compares Scan with its reference.
func compare(t *testing.T, src string) {
	t.Helper()
	l, at, e := token.Scan(src)
	want, wantAt, wantE := refScan(src)
	if e != wantE || at != wantAt || !slices.Equal(l, want) {
		t.Fatalf("Scan(%q) = %v, %d, %d, want %v, %d, %d", short(src), l, at, int(e), want, wantAt, int(wantE))
	}
}

// wantTokens checks the tokens of a text, with their offsets, and that the last one is the end.
func wantTokens(t *testing.T, src string, want ...api.Token) {
	t.Helper()
	want = append(want, api.Token{At: len(src)})
	l, at, e := token.Scan(src)
	if e != api.OK || at != 0 || !slices.Equal(l, want) {
		t.Errorf("Scan(%q) = %v, %d, %d, want %v", short(src), l, at, int(e), want)
	}
	compare(t, src)
}

// wantError checks that a text is refused with no tokens.
func wantError(t *testing.T, src string, at int, e api.Errno) {
	t.Helper()
	l, gotAt, got := token.Scan(src)
	if l != nil || gotAt != at || got != e {
		t.Errorf("Scan(%q) = %v, %d, %d, want %d, %d", short(src), l, gotAt, int(got), at, int(e))
	}
	compare(t, src)
}

// put returns a token at an offset.
func put(at int, x api.Token) api.Token {
	x.At = at
	return x
}

// P7.1: the examples of the chapter.
func TestScanExamples(t *testing.T) {
	wantTokens(t, "let x = 10;", put(0, keyword("let")), put(4, named("x")), put(6, sign("=")), put(8, number(10)), put(10, sign(";")))
	wantError(t, "a !b", 2, api.ErrForm)
	wantError(t, "12ab", 0, api.ErrForm)
	wantError(t, `"ab`, 0, api.ErrShort)
	wantTokens(t, "a<=b", put(0, named("a")), put(1, sign("<=")), put(3, named("b")))
	wantTokens(t, "a< =b", put(0, named("a")), put(1, sign("<")), put(3, sign("=")), put(4, named("b")))
}

// P7.1: a program of several lines.
func TestScanProgram(t *testing.T) {
	src := "func main(x) {\n\twhile x >= 0 { x = x-1; }\n\treturn {\"a\": [x, m.b]};\n}\n"
	wantTokens(t, src,
		put(0, keyword("func")), put(5, named("main")), put(9, sign("(")), put(10, named("x")), put(11, sign(")")), put(13, sign("{")),
		put(16, keyword("while")), put(22, named("x")), put(24, sign(">=")), put(27, number(0)), put(29, sign("{")),
		put(31, named("x")), put(33, sign("=")), put(35, named("x")), put(36, sign("-")), put(37, number(1)), put(38, sign(";")), put(40, sign("}")),
		put(43, keyword("return")), put(50, sign("{")), put(51, text("a")), put(54, sign(":")), put(56, sign("[")), put(57, named("x")), put(58, sign(",")),
		put(60, named("m")), put(61, sign(".")), put(62, named("b")), put(63, sign("]")), put(64, sign("}")), put(65, sign(";")), put(67, sign("}")))
}

// P7.1: the empty text and texts of blanks alone have only the end.
func TestScanOfNothing(t *testing.T) {
	for _, src := range []string{"", " ", "\t", "\n", "   ", "\n\n", " \t\n", "\n\t \t\n "} {
		wantTokens(t, src)
	}
	l, _, _ := token.Scan("")
	if len(l) != 1 || l[0] != (api.Token{}) {
		t.Errorf("Scan of the empty text: %v", l)
	}
}

// P7.1: each blank, and each two of them, before, between and behind tokens.
func TestScanBlanks(t *testing.T) {
	allStrings(" \t\n", 2, func(b string) {
		n := len(b)
		wantTokens(t, b+"a", put(n, named("a")))
		wantTokens(t, "a"+b, put(0, named("a")))
		wantTokens(t, "1"+b+"=", put(0, number(1)), put(n+1, sign("=")))
		wantTokens(t, b+`"a"`+b+"(", put(n, text("a")), put(2*n+3, sign("(")))
		if n > 0 {
			wantTokens(t, "a"+b+"b", put(0, named("a")), put(n+1, named("b")))
			wantTokens(t, "a"+b+"1", put(0, named("a")), put(n+1, number(1)))
			wantTokens(t, "1"+b+"a", put(0, number(1)), put(n+1, named("a")))
			wantTokens(t, "1"+b+"2", put(0, number(1)), put(n+1, number(2)))
			wantTokens(t, "<"+b+"=", put(0, sign("<")), put(n+1, sign("=")))
			wantError(t, b+"!"+b+"=", n, api.ErrForm)
		}
	})
}

// P7.1: bytes and runes that look like blanks are none.
func TestScanOfFalseBlanks(t *testing.T) {
	for _, b := range []string{"\r", "\v", "\f", "\x00", "\b", "\a", "\x08", "\x0b", "\x0c", "\x0d", "\x1b", "\x1c", "\x1d", "\x1e", "\x1f", "\x7f", "\x80", "\x85", "\xa0", "\xff",
		"\u0085", "\u00a0", "\u1680", "\u2000", "\u2003", "\u2028", "\u2029", "\u200b", "\u3000", "\ufeff", "\ufffd"} {
		wantError(t, b, 0, api.ErrForm)
		wantError(t, " "+b, 1, api.ErrForm)
		wantError(t, b+" ", 0, api.ErrForm)
		wantError(t, "a"+b+"b", 1, api.ErrForm)
		wantError(t, "12"+b+"3", 2, api.ErrForm)
		wantError(t, "a\n"+b+"\nb", 2, api.ErrForm)
		wantError(t, "if"+b, 2, api.ErrForm)
	}
	wantError(t, "a;\r\nb;", 2, api.ErrForm)
}

// P7.1: texts of MaxSource bytes are read, longer ones are not, whatever they hold.
func TestScanMaxSource(t *testing.T) {
	if api.MaxSource != 16384 {
		t.Fatal("the limit of the chapter is another one")
	}
	wantTokens(t, strings.Repeat(" ", 16384))
	wantTokens(t, strings.Repeat("\n", 16383)+"a", put(16383, named("a")))
	wantTokens(t, "a"+strings.Repeat("\t", 16383), put(0, named("a")))
	for _, n := range []int{16383, 16384} {
		var want []api.Token
		for i := range n {
			want = append(want, put(i, sign("(")))
		}
		wantTokens(t, strings.Repeat("(", n), want...)
	}
	for _, n := range []int{16385, 16386, 20000, 32768, 65536, 65537, 1 << 17, 1 << 20, 1<<20 + 1} {
		for _, piece := range []string{" ", "(", "a", "a ", "1 ", "!", "\x00", `"`, `"" `} {
			wantError(t, strings.Repeat(piece, n)[:n], 0, api.ErrSize)
		}
	}
	wantError(t, "a #"+strings.Repeat(" ", 16382), 0, api.ErrSize)
	wantError(t, "a #"+strings.Repeat(" ", 16381), 2, api.ErrForm)
	wantError(t, strings.Repeat(" ", 16383)+"#", 16383, api.ErrForm)
}

// P7.1: every keyword alone, and between other tokens.
func TestScanKeywords(t *testing.T) {
	for _, k := range strings.Split(keywords, ", ") {
		n := len(k)
		wantTokens(t, k, put(0, keyword(k)))
		wantTokens(t, " "+k+"\n", put(1, keyword(k)))
		wantTokens(t, "("+k+")"+k, put(0, sign("(")), put(1, keyword(k)), put(n+1, sign(")")), put(n+2, keyword(k)))
		wantTokens(t, k+" "+k, put(0, keyword(k)), put(n+1, keyword(k)))
		wantTokens(t, `"`+k+`"`, put(0, text(k)))
		wantTokens(t, k+`"x"`, put(0, keyword(k)), put(n, text("x")))
		wantError(t, "1"+k, 0, api.ErrForm)
		wantError(t, k+"\x80", n, api.ErrForm)
	}
}

// P7.1: words that begin with a keyword, end with one, or differ in one letter are names.
func TestScanOfAlmostKeywords(t *testing.T) {
	for _, k := range strings.Split(keywords, ", ") {
		others := []string{strings.ToUpper(k), strings.ToUpper(k[:1]) + k[1:]}
		for _, c := range "azAZ_09x" {
			others = append(others, k+string(c))
			if c < '0' || c > '9' {
				others = append(others, string(c)+k)
			}
			for i := range k {
				if i > 0 || c < '0' || c > '9' {
					others = append(others, k[:i]+string(c)+k[i+1:])
				}
			}
		}
		for _, second := range strings.Split(keywords, ", ") {
			others = append(others, k+second, k+"_"+second)
		}
		for _, s := range others {
			if refKeyword(s) {
				continue
			}
			wantTokens(t, s, put(0, named(s)))
			wantTokens(t, "."+s+" ", put(0, sign(".")), put(1, named(s)))
		}
	}
}

// P7.1: each of the 256 bytes alone, first, within and behind a word.
func TestScanWordsOfEveryByte(t *testing.T) {
	letters, inside := 0, 0
	for c := range 256 {
		b := string([]byte{byte(c)})
		for _, src := range []string{b, b + "a", "a" + b, "a" + b + "b", "_" + b + "9", "if" + b, b + "if", " " + b + " ", b + b, b + "=", "=" + b, "1" + b, b + "1"} {
			compare(t, src)
		}
		if l, _, _ := token.Scan(b); len(l) == 2 && l[0] == named(b) {
			letters++
		}
		if l, _, _ := token.Scan("a" + b + "b"); len(l) == 2 && l[0] == named("a"+b+"b") {
			inside++
		}
	}
	if letters != 53 || inside != 63 {
		t.Errorf("%d bytes begin a word and %d are within one, want 53 and 63", letters, inside)
	}
}

// P7.1: words of up to MaxName bytes are names, longer ones are ErrName, also if they begin or end with a keyword.
func TestScanLongWords(t *testing.T) {
	if api.MaxName != 64 {
		t.Fatal("the limit of the chapter is another one")
	}
	for _, n := range []int{1, 2, 63, 64, 65, 66, 127, 128, 129, 255, 256, 257, 320, 4096, 16381} {
		for _, piece := range []string{"a", "Z", "_", "x7", "while", "_0"} {
			s := strings.Repeat(piece, n)[:n]
			if n > 64 {
				wantError(t, s, 0, api.ErrName)
				wantError(t, " "+s, 1, api.ErrName)
				wantError(t, s+" #", 0, api.ErrName)
				wantError(t, s+"\x80", 0, api.ErrName)
				continue
			}
			wantTokens(t, s, put(0, named(s)))
			wantTokens(t, "("+s+")", put(0, sign("(")), put(1, named(s)), put(n+1, sign(")")))
			for _, behind := range []string{"\x80", "\xc3\xa9", "\xff", "\u0161", "\uff21", "\x00"} {
				wantError(t, s+behind, n, api.ErrForm)
				wantError(t, s+behind+"a", n, api.ErrForm)
			}
		}
	}
	long := strings.Repeat("a", 64)
	wantTokens(t, long+" "+long, put(0, named(long)), put(65, named(long)))
	wantTokens(t, long+"+b", put(0, named(long)), put(64, sign("+")), put(65, named("b")))
	wantError(t, long+"1", 0, api.ErrName)
	wantError(t, long+"_", 0, api.ErrName)
	wantError(t, long+" "+long+"b", 65, api.ErrName)
}

// P7.1: integers around zero and around the limits, with leading zeros and with many digits.
func TestScanIntegers(t *testing.T) {
	wantTokens(t, "0", put(0, number(0)))
	wantTokens(t, "7", put(0, number(7)))
	wantTokens(t, "10", put(0, number(10)))
	wantTokens(t, "100200", put(0, number(100200)))
	wantTokens(t, "1234567890", put(0, number(1234567890)))
	wantTokens(t, "2147483648", put(0, number(2147483648)))
	wantTokens(t, "4294967296", put(0, number(4294967296)))
	wantTokens(t, "999999999999999999", put(0, number(999999999999999999)))
	wantTokens(t, "1000000000000000000", put(0, number(1000000000000000000)))
	wantTokens(t, "9223372036854775806", put(0, number(9223372036854775806)))
	wantTokens(t, "9223372036854775807", put(0, number(9223372036854775807)))
	for _, s := range []string{
		"9223372036854775808", "9223372036854775809", "9223372036854775810", "9223372036854775817", "9300000000000000000", "9999999999999999999", "10000000000000000000",
		"18446744073709551615", "18446744073709551616", "18446744073709551617", "27670116110564327424", "36893488147419103239", "99999999999999999999", "100000000000000000000",
		"340282366920938463463374607431768211456", "1" + strings.Repeat("0", 300), strings.Repeat("9", 16383), strings.Repeat("12", 8190),
	} {
		wantError(t, s, 0, api.ErrRange)
		wantError(t, "\n"+s, 1, api.ErrRange)
		wantError(t, s+"a", 0, api.ErrForm)
		if len(s) < 16383 {
			wantError(t, "0"+s, 0, api.ErrForm)
			wantError(t, "- "+s+";", 2, api.ErrRange)
		}
	}
	for _, s := range []string{"00", "01", "007", "09", "000", "0000000000000000000000000", "09223372036854775807", "09223372036854775808", "01.5", "00 1", "0" + strings.Repeat("9", 1000)} {
		wantError(t, s, 0, api.ErrForm)
		wantError(t, "x = "+s, 4, api.ErrForm)
	}
}

// P7.1: what may and what may not stand directly behind an integer.
func TestScanBehindIntegers(t *testing.T) {
	for _, digits := range []string{"0", "1", "42", "9223372036854775807"} {
		n := len(digits)
		value := map[string]int{"0": 0, "1": 1, "42": 42, "9223372036854775807": 9223372036854775807}[digits]
		for c := range 256 {
			b := string([]byte{byte(c)})
			src := "(" + digits + b
			compare(t, src)
			_, at, e := token.Scan(src)
			switch {
			case 'a' <= c && c <= 'z' || 'A' <= c && c <= 'Z' || c == '_':
				if at != 1 || e != api.ErrForm {
					t.Errorf("%q: %d, %d", src, at, int(e))
				}
			case c >= 128:
				if at != n+1 || e != api.ErrForm {
					t.Errorf("%q: %d, %d", src, at, int(e))
				}
			}
		}
		for _, x := range strings.Fields(signs) {
			wantTokens(t, digits+x, put(0, number(value)), put(n, sign(x)))
			wantTokens(t, x+digits, put(0, sign(x)), put(len(x), number(value)))
		}
		wantTokens(t, digits+`"a"`, put(0, number(value)), put(n, text("a")))
		wantTokens(t, digits+"-1", put(0, number(value)), put(n, sign("-")), put(n+1, number(1)))
		wantTokens(t, "-"+digits, put(0, sign("-")), put(1, number(value)))
		wantTokens(t, "+"+digits, put(0, sign("+")), put(1, number(value)))
		wantTokens(t, digits+".5", put(0, number(value)), put(n, sign(".")), put(n+1, number(5)))
		wantTokens(t, digits+" if", put(0, number(value)), put(n+1, keyword("if")))
		wantError(t, digits+"if", 0, api.ErrForm)
		wantError(t, digits+"_", 0, api.ErrForm)
		wantError(t, digits+"e5", 0, api.ErrForm)
		wantError(t, digits+"x10", 0, api.ErrForm)
		wantError(t, digits+"_000", 0, api.ErrForm)
		wantError(t, digits+"\xd9\xa3", n, api.ErrForm)
	}
	wantError(t, "99999999999999999999a", 0, api.ErrForm)
	wantError(t, "99999999999999999999_", 0, api.ErrForm)
	wantError(t, "99999999999999999999 a", 0, api.ErrRange)
	wantError(t, "99999999999999999999\x80", 0, api.ErrRange)
	wantError(t, "\u0663", 0, api.ErrForm) // a digit of another script
}

// P7.1: every sign alone, between blanks and names, and at the end of the text.
func TestScanSigns(t *testing.T) {
	if len(strings.Fields(signs)) != 22 {
		t.Fatal("the chapter has another number of signs")
	}
	for _, x := range strings.Fields(signs) {
		n := len(x)
		wantTokens(t, x, put(0, sign(x)))
		wantTokens(t, " "+x+"\t", put(1, sign(x)))
		wantTokens(t, "a"+x+"b", put(0, named("a")), put(1, sign(x)), put(n+1, named("b")))
		wantTokens(t, "if"+x, put(0, keyword("if")), put(2, sign(x)))
		wantTokens(t, `"a"`+x+`"b"`, put(0, text("a")), put(3, sign(x)), put(n+3, text("b")))
		wantError(t, x+"!", n, api.ErrForm)
		wantError(t, x+"\x80", n, api.ErrForm)
	}
}

// P7.1: every sign before every other one: the longest that fits is taken, from the left.
func TestScanOfTwoSigns(t *testing.T) {
	for _, x := range strings.Fields(signs) {
		for _, y := range strings.Fields(signs) {
			n := len(x)
			compare(t, x+y)
			wantTokens(t, x+" "+y, put(0, sign(x)), put(n+1, sign(y)))
			if y[0] != '=' || x != "<" && x != ">" && x != "=" {
				if x+y != "!==" {
					wantTokens(t, x+y, put(0, sign(x)), put(n, sign(y)))
				}
			}
			for _, z := range strings.Fields(signs) {
				compare(t, x+y+z)
				compare(t, x+y+" "+z)
			}
		}
	}
	wantTokens(t, "===", put(0, sign("==")), put(2, sign("=")))
	wantTokens(t, "====", put(0, sign("==")), put(2, sign("==")))
	wantTokens(t, "= ==", put(0, sign("=")), put(2, sign("==")))
	wantTokens(t, "<==", put(0, sign("<=")), put(2, sign("=")))
	wantTokens(t, "!==", put(0, sign("!=")), put(2, sign("=")))
	wantTokens(t, ">===", put(0, sign(">=")), put(2, sign("==")))
	wantTokens(t, "=<=", put(0, sign("=")), put(1, sign("<=")))
	wantTokens(t, "=>", put(0, sign("=")), put(1, sign(">")))
	wantTokens(t, "=!=", put(0, sign("=")), put(1, sign("!=")))
	wantTokens(t, "==!=", put(0, sign("==")), put(2, sign("!=")))
	wantTokens(t, "<>", put(0, sign("<")), put(1, sign(">")))
	wantTokens(t, "<<=", put(0, sign("<")), put(1, sign("<=")))
	wantTokens(t, "--", put(0, sign("-")), put(1, sign("-")))
	wantTokens(t, "-=", put(0, sign("-")), put(1, sign("=")))
	wantTokens(t, ":=", put(0, sign(":")), put(1, sign("=")))
	wantTokens(t, "//", put(0, sign("/")), put(1, sign("/")))
	wantTokens(t, "...", put(0, sign(".")), put(1, sign(".")), put(2, sign(".")))
}

// P7.1: an exclamation mark is a part of != or nothing, and the other bytes that begin no token are refused.
func TestScanOfNoSigns(t *testing.T) {
	wantTokens(t, "!=", put(0, sign("!=")))
	wantTokens(t, "a!=b", put(0, named("a")), put(1, sign("!=")), put(3, named("b")))
	wantError(t, "!", 0, api.ErrForm)
	wantError(t, "a!", 1, api.ErrForm)
	wantError(t, "!!=", 0, api.ErrForm)
	wantError(t, "!=!", 2, api.ErrForm)
	wantError(t, "! =", 0, api.ErrForm)
	wantError(t, "a ! = b", 2, api.ErrForm)
	for c := range 256 {
		b := string([]byte{byte(c)})
		wantE := api.ErrForm
		if strings.Contains(" \t\n(){}[],;.:=<>+-*/%_0123456789", b) || 'a' <= c && c <= 'z' || 'A' <= c && c <= 'Z' {
			wantE = api.OK
		}
		if b == `"` {
			wantE = api.ErrShort
		}
		if _, at, e := token.Scan(b); at != 0 || e != wantE {
			t.Errorf("Scan(%q): %d, %d", b, at, int(e))
		}
		if wantE == api.ErrForm {
			wantError(t, "a + "+b, 4, api.ErrForm)
			if b != "!" {
				wantError(t, b+"=", 0, api.ErrForm)
				wantError(t, b+"==", 0, api.ErrForm)
			}
			wantTokens(t, `"`+token.Quote(b)[1:], put(0, text(b)))
		}
	}
}

// P7.1: words, integers and literals beside each other without a blank.
func TestScanOfNeighbours(t *testing.T) {
	wantTokens(t, `a"b"c`, put(0, named("a")), put(1, text("b")), put(4, named("c")))
	wantTokens(t, `"b""c"`, put(0, text("b")), put(3, text("c")))
	wantTokens(t, `""""`, put(0, text("")), put(2, text("")))
	wantTokens(t, `"a"1"b"`, put(0, text("a")), put(3, number(1)), put(4, text("b")))
	wantTokens(t, `"a"if`, put(0, text("a")), put(3, keyword("if")))
	wantTokens(t, "a1 2", put(0, named("a1")), put(3, number(2)))
	wantTokens(t, "a.b(c)[1]", put(0, named("a")), put(1, sign(".")), put(2, named("b")), put(3, sign("(")), put(4, named("c")), put(5, sign(")")), put(6, sign("[")), put(7, number(1)), put(8, sign("]")))
	wantTokens(t, "_1_", put(0, named("_1_")))
	wantTokens(t, "nottrue", put(0, named("nottrue")))
}

// P7.1: a text with two faults is refused for the first one, of any kind; the second one may have a higher rank elsewhere.
func TestScanOfTwoFaults(t *testing.T) {
	long := strings.Repeat("n", 65)
	faults := []struct {
		src string
		e   api.Errno
	}{
		{"#", api.ErrForm}, {"!", api.ErrForm}, {"\xff", api.ErrForm}, {long, api.ErrName}, {"00", api.ErrForm}, {"1a", api.ErrForm}, {"9223372036854775808", api.ErrRange},
		{`"\q"`, api.ErrForm}, {`"\xG0"`, api.ErrForm}, {"\"\n\"", api.ErrForm}, {`"` + strings.Repeat("s", 4097) + `"`, api.ErrSize}, {`"open`, api.ErrShort},
	}
	for _, first := range faults {
		for _, second := range faults {
			if first.e != api.ErrShort {
				wantError(t, first.src+" "+second.src, 0, first.e)
				wantError(t, "a = "+first.src+"\n; "+second.src+" ", 4, first.e)
			}
		}
		for _, right := range []string{"a", "if", "12", `"b"`, "<=", ")"} {
			wantError(t, right+" "+first.src, len(right)+1, first.e)
		}
	}
	// What follows an open quotation mark is a part of its literal.
	wantError(t, `"open #`, 0, api.ErrShort)
	wantError(t, "\"open\n", 0, api.ErrForm)
	wantError(t, `"open "!`, 7, api.ErrForm)
}
