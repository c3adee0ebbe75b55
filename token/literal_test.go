package token_test

import (
	"strings"
	"testing"

	"workflow/api"
	"workflow/token"
)

// P7.1: ordinary literals and each escape.
func TestScanLiterals(t *testing.T) {
	for src, want := range map[string]string{
		`""`:                     "",
		`" "`:                    " ",
		`"a"`:                    "a",
		`"order 7"`:              "order 7",
		`"if"`:                   "if",
		`"007"`:                  "007",
		`"!#"`:                   "!#",
		`"'"`:                    "'",
		`"a//b"`:                 "a//b",
		`"\""`:                   `"`,
		`"\\"`:                   `\`,
		`"\n"`:                   "\n",
		`"\t"`:                   "\t",
		`"\x00"`:                 "\x00",
		`"\x41"`:                 "A",
		`"\x7e\x7f\x80\xff"`:     "~\x7f\x80\xff",
		`"\x0a\x09"`:             "\n\t",
		`"\x22"`:                 `"`,
		`"\x5c"`:                 `\`,
		`"\x5cn"`:                `\n`,
		`"\x410"`:                "A0",
		`"\x4142"`:               "A42",
		`"\\x41"`:                `\x41`,
		`"\\n"`:                  `\n`,
		`"\\\""`:                 `\"`,
		`"\\\\"`:                 `\\`,
		`"nt\n\tx"`:              "nt\n\tx",
		`"a\"b\\c\nd\te\x1ff"`:   "a\"b\\c\nd\te\x1ff",
		`"\xc3\xa9"`:             "\u00e9",
		`"let x = \"a\" <= 10;"`: `let x = "a" <= 10;`,
	} {
		n := len(src)
		wantTokens(t, src, put(0, text(want)))
		wantTokens(t, "  "+src+"\n", put(2, text(want)))
		wantTokens(t, src+src, put(0, text(want)), put(n, text(want)))
		wantTokens(t, src+"a", put(0, text(want)), put(n, named("a")))
		wantTokens(t, src+"1", put(0, text(want)), put(n, number(1)))
		wantTokens(t, src+"==", put(0, text(want)), put(n, sign("==")))
	}
}

// P7.1: a literal with each of the 256 bytes itself, alone and between others.
func TestScanLiteralsOfEveryByte(t *testing.T) {
	right := 0
	for c := range 256 {
		b := string([]byte{byte(c)})
		for _, src := range []string{`"` + b + `"`, `"a` + b + `b"`, `"` + b + `" x`, `"` + b, `"\\` + b + `"`, `"\x41` + b + `"`, `"` + b + b + `"`} {
			compare(t, src)
		}
		plain := 32 <= c && c <= 126 && c != '"' && c != '\\'
		if plain {
			right++
			wantTokens(t, `"`+b+`"`, put(0, text(b)))
			wantTokens(t, `(" `+b+`a" )`, put(0, sign("(")), put(1, text(" "+b+"a")), put(7, sign(")")))
			wantError(t, `"`+b, 0, api.ErrShort)
			continue
		}
		if b != `"` && b != `\` {
			wantError(t, `"`+b+`"`, 0, api.ErrForm)
			wantError(t, `"`+b, 0, api.ErrForm)
			wantError(t, `a "ab`+b+`c`, 2, api.ErrForm)
			wantError(t, `"" "`+b+`"`, 3, api.ErrForm)
		}
	}
	if right != 93 {
		t.Errorf("%d bytes stand for themselves, want 93", right)
	}
	// Runes of several bytes stand for nothing.
	for _, s := range []string{"\u00e9", "\u0161", "\u20ac", "\ufffd", "\U0001f600"} {
		wantError(t, `"`+s+`"`, 0, api.ErrForm)
	}
}

// P7.1: a backslash before each of the 256 bytes.
func TestScanEscapesOfEveryByte(t *testing.T) {
	for c := range 256 {
		b := string([]byte{byte(c)})
		src := `"\` + b + `"`
		compare(t, src)
		compare(t, src[:3])
		compare(t, `"\`+b+`\`+b+`"`)
		compare(t, `"\`+b+`41"`)
		switch c {
		case 'n':
			wantTokens(t, src, put(0, text("\n")))
		case 't':
			wantTokens(t, src, put(0, text("\t")))
		case '\\':
			wantTokens(t, src, put(0, text(`\`)))
		case '"':
			wantError(t, src[:3], 0, api.ErrShort)
			wantTokens(t, src, put(0, text(`"`)))
		case 'x':
			wantError(t, src, 0, api.ErrForm)
			wantError(t, src[:3], 0, api.ErrShort)
		default:
			wantError(t, src, 0, api.ErrForm)
			wantError(t, src[:3], 0, api.ErrForm)
		}
	}
}

// P7.1: the escape \xHH with all values, and with each of the 256 bytes as its first and its second digit.
func TestScanHexadecimalEscapes(t *testing.T) {
	const digits = "0123456789abcdef"
	for c := range 256 {
		b := string([]byte{byte(c)})
		escape := `\x` + digits[c/16:c/16+1] + digits[c%16:c%16+1]
		wantTokens(t, `"`+escape+`"`, put(0, text(b)))
		wantTokens(t, `"a`+escape+escape+`0"`, put(0, text("a"+b+b+"0")))
		for _, src := range []string{`"\x` + b + `1"`, `"\x1` + b + `"`, `"\xf` + b + `0"`, `"\x` + b + b + `"`} {
			compare(t, src)
		}
		if !strings.Contains(digits, b) {
			wantError(t, `"\x`+b+`1"`, 0, api.ErrForm)
			wantError(t, `"\x1`+b+`"`, 0, api.ErrForm)
			// The byte is wrong also where the text ends directly behind it.
			wantError(t, `"\x`+b, 0, api.ErrForm)
			wantError(t, `"\xf`+b, 0, api.ErrForm)
		}
	}
	for _, src := range []string{`"\x4A"`, `"\xA4"`, `"\xFF"`, `"\XFF"`, `"\X41"`, `"\x4G"`, `"\xg4"`, `"\x 41"`, `"\x4 1"`, `"\x-1"`, `"\x+1"`, `"\x"`, `"\x4"`, `"\x""`, `"\x\x"`, `"\u0041"`, `"\101"`, `"\0"`, `"\r"`, `"\'"`, `"\/"`, `"\N"`, `"\T"`} {
		wantError(t, src, 0, api.ErrForm)
		wantError(t, "f("+src+")", 2, api.ErrForm)
	}
}

// P7.1: literals that are cut at each place, also within an escape, are short.
func TestScanOfCutLiterals(t *testing.T) {
	for _, src := range []string{`""`, `"a"`, `"ab cd"`, `"\""`, `"\\"`, `"\n\t"`, `"\x41"`, `"\xff\x00"`, `"a\"b\\c\nd\te\xe9f"`} {
		for n := 1; n < len(src); n++ {
			wantError(t, src[:n], 0, api.ErrShort)
			wantError(t, "a; \n"+src[:n], 4, api.ErrShort)
			wantError(t, `"b"`+src[:n], 3, api.ErrShort)
		}
		wantError(t, src+`"`, len(src), api.ErrShort)
		// A blank behind a cut literal is a part of it.
		wantError(t, src[:len(src)-1]+" ", 0, api.ErrShort)
		wantError(t, src[:len(src)-1]+"\n", 0, api.ErrForm)
		wantError(t, src[:len(src)-1]+"\t", 0, api.ErrForm)
	}
	for _, src := range []string{`"\`, `"\x`, `"\x4`, `"ab\`, `"ab\x`, `"ab\xf`, `"\\\`, `"\"\x0`, `"`} {
		wantError(t, src, 0, api.ErrShort)
	}
	// The end counts only where no byte before it is wrong.
	for _, src := range []string{`"\q`, `"\xg`, `"\x4g`, `"\q\`, `"\xg\x`, "\"\x00\\", "\"a\nb", "\"a\x80b\\x", `"\x"`, `"\x4"`, `"\x\`} {
		wantError(t, src, 0, api.ErrForm)
	}
}

// P7.1: strings of MaxText bytes are read, longer ones are not; what counts is the string and not the literal.
func TestScanMaxText(t *testing.T) {
	if api.MaxText != 4096 {
		t.Fatal("the limit of the chapter is another one")
	}
	for _, n := range []int{4094, 4095, 4096, 4097, 4098, 5000} {
		for _, piece := range []struct{ char, is string }{{"s", "s"}, {`\n`, "\n"}, {`\"`, `"`}, {`\\`, `\`}, {`\x6`, ""}, {" ", " "}} {
			char, is := piece.char, piece.is
			if is == "" {
				// Too long for MaxSource if all of it were escapes of four bytes.
				wantText(t, strings.Repeat("a", n-2000)+strings.Repeat(`\x00`, 2000), strings.Repeat("a", n-2000)+strings.Repeat("\x00", 2000))
				wantText(t, strings.Repeat(`\xff`, 2000)+strings.Repeat("a", n-2000), strings.Repeat("\xff", 2000)+strings.Repeat("a", n-2000))
				continue
			}
			wantText(t, strings.Repeat(char, n), strings.Repeat(is, n))
		}
	}
	for _, n := range []int{8192, 16382} {
		wantText(t, strings.Repeat("s", n), strings.Repeat("s", n))
	}
	wantText(t, strings.Repeat(`\n`, 8191), strings.Repeat("\n", 8191))
	wantText(t, strings.Repeat(`\x00`, 4095), strings.Repeat("\x00", 4095))
	wantError(t, `"`+strings.Repeat(`\x00`, 4096)+`"`, 0, api.ErrSize) // more than MaxSource
}

// wantText checks a literal with the given characters, and what it stands for, alone and behind another token.
func wantText(t *testing.T, characters, s string) {
	t.Helper()
	src := `"` + characters + `"`
	if len(s) <= 4096 {
		wantTokens(t, src, put(0, text(s)))
	} else {
		wantError(t, src, 0, api.ErrSize)
	}
	if len(src) >= 16384 {
		return
	}
	if len(s) <= 4096 {
		wantTokens(t, ";"+src, put(0, sign(";")), put(1, text(s)))
		wantError(t, src+"!", len(src), api.ErrForm)
	} else {
		wantError(t, ";"+src, 1, api.ErrSize)
		wantError(t, src+"!", 0, api.ErrSize)
	}
}

// P7.1: a literal that is too long is ErrSize only if none of its bytes is wrong and it is closed.
func TestScanOfLongWrongLiterals(t *testing.T) {
	for _, n := range []int{4096, 4097, 4098, 10000} {
		s := strings.Repeat("s", n)
		for _, wrong := range []string{"\n", "\t", "\x00", "\x80", `\q`, `\x4G`, `\xA0`, "\x7f"} {
			wantError(t, `"`+s+wrong+`"`, 0, api.ErrForm)
			wantError(t, `"`+s+wrong+s[:2000]+`"`, 0, api.ErrForm)
			wantError(t, `"`+wrong+s+`"`, 0, api.ErrForm)
			wantError(t, `"`+s+wrong, 0, api.ErrForm)
			wantError(t, `a "`+s+wrong+`"`, 2, api.ErrForm)
		}
		for _, open := range []string{"", `\`, `\x`, `\x4`, `\"`, " "} {
			wantError(t, `"`+s+open, 0, api.ErrShort)
			wantError(t, `a "`+s+open, 2, api.ErrShort)
		}
	}
	// Two literals that are long only together.
	half := `"` + strings.Repeat("s", 4096) + `"`
	wantTokens(t, half+half, put(0, text(strings.Repeat("s", 4096))), put(4098, text(strings.Repeat("s", 4096))))
	wantError(t, half+half[:4097]+`s"`, 4098, api.ErrSize)
}

// P7.1, P7.3: Scan reads what Quote writes for each of the strings of two bytes.
func TestScanOfQuotedPairs(t *testing.T) {
	for c := range 1 << 16 {
		s := string([]byte{byte(c >> 8), byte(c)})
		l, at, e := token.Scan(token.Quote(s))
		if e != api.OK || at != 0 || len(l) != 2 || l[0] != text(s) || l[1] != put(len(token.Quote(s)), api.Token{}) {
			t.Fatalf("Scan(%s) = %v, %d, %d", token.Quote(s), l, at, int(e))
		}
	}
}
