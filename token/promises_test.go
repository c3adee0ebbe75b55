package token_test

import (
	"math/rand"
	"slices"
	"strings"
	"sync"
	"testing"

	"workflow/api"
	"workflow/token"
)

// rightPieces are blanks and tokens.
var rightPieces = []string{
	" ", "  ", "\t", "\n", " \n", "let", "if", "while", "null", "x", "main", "_a1", "Z", strings.Repeat("w", 63), strings.Repeat("w", 64), "0", "1", "42", "9223372036854775807",
	`""`, `"a"`, `"\n"`, `"\x00\xff"`, `"\""`, `"\\"`, `"a b"`, "==", "!=", "<=", ">=", "(", ")", "{", "}", "[", "]", ",", ";", ".", ":", "=", "<", ">", "+", "-", "*", "/", "%",
}

// wrongPieces are no tokens, and parts of tokens.
var wrongPieces = []string{
	"007", "9223372036854775808", "1a", strings.Repeat("w", 65), `"`, `\`, `\x`, `\x4`, `"\q"`, `"\xFF"`, "!", "#", "\r", "\x00", "\x80", "\u00e9", "&", "'", "~",
}

// anyText joins some pieces, of which most are right.
func anyText(random *rand.Rand) string {
	s := ""
	for range random.Intn(12) {
		if random.Intn(12) > 0 {
			s += rightPieces[random.Intn(len(rightPieces))]
		} else {
			s += wrongPieces[random.Intn(len(wrongPieces))]
		}
		if random.Intn(3) == 0 {
			s += " "
		}
	}
	return s
}

// P7.1: all short texts of the bytes that begin, continue and end tokens are scanned as the patterns of the reference say.
func TestScanOfShortTexts(t *testing.T) {
	for _, x := range []struct {
		alphabet string
		size     int
	}{
		{" \t\n\ra1_\"\\=!<;\x80", 4},
		{"a_Z019 +=\xff", 5},
		{"=!<>- 0", 6},
		{"\"\\x4aG n", 6},
		{"\"\\x0\n", 7},
		{"\"\\", 12},
		{"ifelt ", 6},
		{"/09:@AZ[^_`az{|}~!\"#%&'()*+,-.;<=>?$\\] \t\n\v\f\r\x00\x1f\x7f\x80\xc3\xa9\xff", 3},
	} {
		allStrings(x.alphabet, x.size, func(s string) { compare(t, s) })
	}
}

// P7.1: all texts of two arbitrary bytes.
func TestScanOfTwoBytes(t *testing.T) {
	for c := range 1 << 16 {
		compare(t, string([]byte{byte(c >> 8), byte(c)}))
	}
}

// P7.1: texts of many pieces, right and wrong ones, and damaged programs.
func TestScanOfPieces(t *testing.T) {
	random := rand.New(rand.NewSource(7))
	accepted := 0
	for range 40000 {
		src := anyText(random)
		compare(t, src)
		if _, _, e := token.Scan(src); e == api.OK {
			accepted++
		}
	}
	if accepted < 4000 || accepted > 36000 {
		t.Errorf("%d of 40000 texts are accepted", accepted)
	}
	program := "func main(x) {\n\tlet y = \"a\\x41\\n\\\"\" + str(9223372036854775807);\n\tif x<=10 and not y!=0 { return -x/2; }\n}\n"
	for range 40000 {
		b := []byte(program)
		for range 1 + random.Intn(3) {
			b[random.Intn(len(b))] = byte(random.Intn(256))
		}
		compare(t, string(b))
	}
	for n := range len(program) {
		compare(t, program[:n])
		compare(t, program[n:])
		compare(t, program[:n]+program[n+1:])
		for c := range 256 {
			compare(t, program[:n]+string([]byte{byte(c)})+program[n+1:])
		}
	}
}

// P7.1: a token at every place of a text of MaxSource bytes has its offset, and so has an error.
func TestScanOffsets(t *testing.T) {
	for at := 0; at < 16384; at += 61 {
		before := strings.Repeat(" ", at)
		after := strings.Repeat("\n", 16384-at-1)
		wantTokens(t, before+"x"+after, put(at, named("x")))
		wantError(t, before+"!"+after, at, api.ErrForm)
	}
	src := strings.Repeat(`a1 <="\x7f"12;`, 1170)
	l, at, e := token.Scan(src)
	if e != api.OK || at != 0 || len(l) != 5*1170+1 {
		t.Fatalf("a long text: %d tokens, %d, %d", len(l), at, int(e))
	}
	for i, x := range l[:5*1170] {
		if want := i/5*14 + []int{0, 3, 5, 11, 13}[i%5]; x.At != want {
			t.Fatalf("token %d is at %d, want %d", i, x.At, want)
		}
	}
}

// P7.5: the offsets are strictly increasing, and the end is not before any token.
func TestOffsetsIncrease(t *testing.T) {
	random := rand.New(rand.NewSource(75))
	check := func(src string) {
		l, _, e := token.Scan(src)
		if e != api.OK {
			return
		}
		for i, x := range l {
			last := i == len(l)-1
			if (x.Kind == api.TokEnd) != last || last && x.At != len(src) || x.At < 0 || x.At > len(src) {
				t.Fatalf("Scan(%q): token %d is %v", short(src), i, x)
			}
			if i > 0 && (x.At < l[i-1].At || x.At == l[i-1].At && !last) {
				t.Fatalf("Scan(%q): the offsets %d and %d", short(src), l[i-1].At, x.At)
			}
		}
	}
	allStrings("a1 ;\"", 6, check)
	for range 20000 {
		check(anyText(random))
	}
}

// withoutOffsets returns the tokens with the offset 0.
func withoutOffsets(l []api.Token) []api.Token {
	l = slices.Clone(l)
	for i := range l {
		l[i].At = 0
	}
	return l
}

// P7.6: what Spell writes for the tokens of a text has the same tokens, and Spell writes it again in the same way.
func TestScanOfSpelled(t *testing.T) {
	random := rand.New(rand.NewSource(76))
	count := 0
	check := func(src string) {
		l, _, e := token.Scan(src)
		if e != api.OK {
			return
		}
		spelled := token.Spell(l)
		if spelled != refSpell(l) {
			t.Fatalf("Spell of the tokens of %q: %q", short(src), short(spelled))
		}
		if len(spelled) > api.MaxSource {
			return
		}
		again, at, e := token.Scan(spelled)
		if e != api.OK || at != 0 || !slices.Equal(withoutOffsets(again), withoutOffsets(l)) {
			t.Fatalf("%q is spelled %q: %v, %d, %d", short(src), short(spelled), again, at, int(e))
		}
		if token.Spell(again) != spelled {
			t.Fatalf("%q is spelled %q", short(spelled), short(token.Spell(again)))
		}
		count++
	}
	allStrings("a0 ;=<\"\\n", 6, check)
	for range 30000 {
		check(anyText(random))
	}
	if count < 100000 {
		t.Errorf("only %d texts are accepted", count)
	}
	check(strings.Repeat("(", 8192))                // 16383 bytes
	check(strings.Repeat("(", 8193))                // 16385 bytes
	check(strings.Repeat("a ", 8192))               // the last space is left out
	check(`"` + strings.Repeat(`\x41`, 4095) + `"`) // is spelled with a quarter of its bytes
}

// P7.6: the program of an example is spelled with single spaces.
func TestSpellOfProgram(t *testing.T) {
	l, _, e := token.Scan("func f( a,b )\n{\n\treturn\ta.x<=-1 or b!=\"\\x41\\x00\" ;}\n\n")
	if want := `func f ( a , b ) { return a . x <= - 1 or b != "A\x00" ; }`; e != api.OK || token.Spell(l) != want {
		t.Errorf("spelled %s, %d, want %s", token.Spell(l), int(e), want)
	}
}

// P7.7: the literal of a string is read as this string, and as nothing else.
func TestScanOfQuoted(t *testing.T) {
	random := rand.New(rand.NewSource(77))
	read := 0
	check := func(s string) {
		quoted := token.Quote(s)
		if len(s) > 4096 {
			wantError(t, quoted, 0, api.ErrSize)
		} else if len(quoted) <= 16384 {
			wantTokens(t, quoted, put(0, text(s)))
			read++
		} else {
			wantError(t, quoted, 0, api.ErrSize)
		}
	}
	allStrings("a0x\"\\ \n\t\x00\x7f\x80\xff", 4, check)
	for range 5000 {
		b := make([]byte, random.Intn(300))
		random.Read(b)
		check(string(b))
	}
	if read < 20000 {
		t.Errorf("only %d strings are read", read)
	}
	for _, n := range []int{4000, 4094, 4095, 4096, 4097, 4098} {
		for _, piece := range []string{"a", "\n", `"`, `\`, "\x00", "\xff", "a\xff", "\x00\x01a", "\ta"} {
			check(strings.Repeat(piece, n)[:n])
		}
	}
	// 4095 escapes of four bytes have 16382 bytes with both quotation marks, and two plain bytes more fill MaxSource.
	check(strings.Repeat("\xff", 4095) + "a")
	check(strings.Repeat("\xff", 4095) + "\n")
	check(strings.Repeat("\xff", 4095) + "\xff")
}

// P7.7: a blank between two tokens, and at both ends of the text, changes nothing but offsets.
func TestBlanksBetweenTokens(t *testing.T) {
	random := rand.New(rand.NewSource(78))
	check := func(src string) {
		l, _, e := token.Scan(src)
		if e != api.OK {
			return
		}
		for i, x := range l {
			for _, b := range []string{" ", "\t", "\n"} {
				// Before the token x, so between it and the one before it.
				blank := src[:x.At] + b + src[x.At:]
				want := slices.Clone(l)
				for k := i; k < len(want); k++ {
					want[k].At++
				}
				if got, at, e := token.Scan(blank); e != api.OK || at != 0 || !slices.Equal(got, want) {
					t.Fatalf("Scan(%q) = %v, %d, %d, want %v", short(blank), got, at, int(e), want)
				}
			}
		}
	}
	allStrings("a0;=<\"", 5, check)
	for range 10000 {
		check(anyText(random))
	}
}

// R5: the results of two calls share nothing with each other, and Spell does not change its argument.
func TestMemory(t *testing.T) {
	const src = `let x = "a\n" + 10;`
	one, _, _ := token.Scan(src)
	two, _, _ := token.Scan(src)
	want := slices.Clone(two)
	for i := range one {
		one[i] = api.Token{Kind: 9, At: -1, Text: "changed", Int: -1}
	}
	_ = append(one[:0], api.Token{Kind: 8})
	if !slices.Equal(two, want) {
		t.Errorf("a result changed with another one: %v", two)
	}
	three, _, _ := token.Scan(src)
	if !slices.Equal(three, want) {
		t.Errorf("a later result changed: %v", three)
	}

	all := append(slices.Clone(want), named("behind"))
	list := all[:len(want)]
	if got := token.Spell(list); got != `let x = "a\n" + 10 ;` {
		t.Errorf("Spell: %q", got)
	}
	if !slices.Equal(list, want) || all[len(want)] != named("behind") {
		t.Errorf("Spell changed its argument: %v", all)
	}
}

// R9: concurrent calls have the results that the calls have alone.
func TestConcurrentCalls(t *testing.T) {
	random := rand.New(rand.NewSource(79))
	var texts []string
	for range 400 {
		texts = append(texts, anyText(random))
	}
	var group sync.WaitGroup
	for range 8 {
		group.Go(func() {
			for _, src := range texts {
				l, at, e := token.Scan(src)
				want, wantAt, wantE := refScan(src)
				if e != wantE || at != wantAt || !slices.Equal(l, want) || token.Spell(l) != refSpell(want) || token.Quote(src) != refQuote(src) || token.Keyword(src) != refKeyword(src) {
					t.Errorf("%q has another result", src)
				}
			}
		})
	}
	group.Wait()
}
