package name_test

import (
	"fmt"
	"math"
	"math/big"
	"regexp"
	"slices"
	"strings"
	"sync"
	"testing"

	"workflow/api"
	"workflow/name"
)

const (
	digits = "0123456789"
	first  = "abcdefghijklmnopqrstuvwxyzABCDEFGHIJKLMNOPQRSTUVWXYZ_"
	words  = first + digits
)

// holds tells whether a byte is one of the bytes of a string.
func holds(set string, c byte) bool { return strings.IndexByte(set, c) >= 0 }

// refRight is Right by its section, with the bytes listed.
func refRight(s string) bool {
	if len(s) < 1 || len(s) > 64 || !holds(first, s[0]) {
		return false
	}
	for _, c := range []byte(s) {
		if !holds(words, c) {
			return false
		}
	}
	return true
}

var identifier = regexp.MustCompile(`\Ar[1-9][0-9]*\z`)

// refNumber is Number by the section of Run: r and a decimal number from 1 to 2^63 - 1, in integers without a bound.
func refNumber(run string) (int, bool) {
	if !identifier.MatchString(run) {
		return 0, false
	}
	n, _ := new(big.Int).SetString(run[1:], 10)
	if !n.IsInt64() {
		return 0, false
	}
	return int(n.Int64()), true
}

// refSplit is Split by its section: all the parts between slashes, if there are two.
func refSplit(key string) (string, string, bool) {
	parts := strings.Split(key, "/")
	if len(parts) != 2 {
		return "", "", false
	}
	return parts[0], parts[1], true
}

// allStrings calls f with all strings of at most size bytes of an alphabet.
func allStrings(alphabet string, size int, f func(s string)) {
	level := []string{""}
	for range size + 1 {
		var next []string
		for _, s := range level {
			f(s)
			for i := range len(alphabet) {
				next = append(next, s+alphabet[i:i+1])
			}
		}
		level = next
	}
}

// someInts returns the bounds of 64 bits, the numbers around each power of 2 and of 10 and its negative, and ordinary ones.
func someInts() []int {
	ints := []int{math.MaxInt, math.MinInt, math.MaxInt - 1, math.MinInt + 1, 5, 12, 123, 1234567890123456789, -1234567890123456789}
	for shift := range 63 {
		for d := -1; d <= 1; d++ {
			ints = append(ints, 1<<shift+d, -1<<shift+d)
		}
	}
	for power, i := 1, 0; i < 19; i++ {
		ints = append(ints, power-1, power, power+1, -power, 9*(power/10), power/10*3)
		power *= 10
	}
	slices.Sort(ints)
	return slices.Compact(ints)
}

// P6.1: the chapter's names, and ordinary ones of each kind of byte, right and wrong.
func TestRight(t *testing.T) {
	for s, want := range map[string]bool{
		"_a1":           true,
		"1a":            false,
		"":              false,
		"a-b":           false,
		"a":             true,
		"z":             true,
		"A":             true,
		"Z":             true,
		"_":             true,
		"__":            true,
		"_0":            true,
		"a9":            true,
		"order_item_7":  true,
		"OrderItem":     true,
		"main":          true,
		"while":         true,
		"0":             false,
		"9":             false,
		"9_":            false,
		"12":            false,
		"order item":    false,
		" order":        false,
		"order ":        false,
		" ":             false,
		"a/b":           false,
		"/":             false,
		"a/":            false,
		`a"b`:           false,
		`"a"`:           false,
		"a'b":           false,
		"a.b":           false,
		"a,b":           false,
		"a:b":           false,
		"a@b":           false,
		"a[b":           false,
		"a`b":           false,
		"a{b":           false,
		"a$b":           false,
		"a\x00":         false,
		"\x00":          false,
		"a\n":           false,
		"a\x7f":         false,
		"a\x80":         false,
		"a\xff":         false,
		"\xff":          false,
		"caf\u00e9":     false,
		"\u00e9t\u00e9": false,
		"a\u0161":       false, // its number ends in the byte of a
		"\u0161":        false,
		"a\uff21":       false, // a wide letter
		"a\u0663":       false, // a digit of another script
		"a\u00aa":       false,
		"a\u203f":       false, // a connector like the underscore
		"\ufeffa":       false,
	} {
		if got := name.Right(s); got != want || got != refRight(s) {
			t.Errorf("Right(%q) = %v, want %v", s, got, want)
		}
	}
}

// P6.1: each of the 256 bytes alone, as the first, a middle and the last byte of a name.
func TestRightOfEveryByte(t *testing.T) {
	alone, inside := 0, 0
	for c := range 256 {
		b := string([]byte{byte(c)})
		if name.Right(b) != holds(first, byte(c)) || name.Right(b+"a1_") != holds(first, byte(c)) {
			t.Errorf("the byte %q at the beginning: %v, %v", b, name.Right(b), name.Right(b+"a1_"))
		}
		for _, s := range []string{"a" + b, "a1" + b + "_Z", "_" + b + b, "Z" + b + "0"} {
			if name.Right(s) != holds(words, byte(c)) {
				t.Errorf("Right(%q) = %v", s, name.Right(s))
			}
		}
		if name.Right(b) {
			alone++
		}
		if name.Right("a" + b) {
			inside++
		}
	}
	if alone != 53 || inside != 63 {
		t.Errorf("%d bytes begin a name and %d continue it, want 53 and 63", alone, inside)
	}
}

// P6.1: all strings of two arbitrary bytes, and all of up to four of the bytes at the bounds of each kind.
func TestRightOfShortStrings(t *testing.T) {
	for c := range 1 << 16 {
		s := string([]byte{byte(c >> 8), byte(c)})
		if name.Right(s) != refRight(s) {
			t.Fatalf("Right(%q) = %v", s, name.Right(s))
		}
	}
	allStrings("/09:@AZ[^_`az{ \"-\x00\x7f\x80\xc3\xa9\xff", 4, func(s string) {
		if name.Right(s) != refRight(s) {
			t.Fatalf("Right(%q) = %v", s, name.Right(s))
		}
	})
}

// P6.1: names of each length up to and beyond MaxName, of one byte and of mixed ones.
func TestRightOfEveryLength(t *testing.T) {
	lengths := []int{127, 128, 129, 255, 256, 257, 320, 1000, 65535, 65536, 65537, 65600, 1 << 20}
	for n := range 2*api.MaxName + 3 {
		lengths = append(lengths, n)
	}
	for _, n := range lengths {
		want := 1 <= n && n <= 64
		for _, s := range []string{strings.Repeat("a", n), strings.Repeat("Z", n), strings.Repeat("_", n), strings.Repeat("x_7Y", n)[:n]} {
			if name.Right(s) != want {
				t.Errorf("%d bytes %.8q..: %v", n, s, name.Right(s))
			}
		}
		if name.Right(strings.Repeat("7", n)) {
			t.Errorf("%d digits are a name", n)
		}
	}
	if !name.Right(strings.Repeat("a", api.MaxName)) || name.Right(strings.Repeat("a", api.MaxName+1)) {
		t.Error("the limit is not MaxName")
	}
}

// P6.1: the limit counts bytes and not runes, and a wrong byte at any place of a name of any length is found.
func TestRightOfOneWrongByte(t *testing.T) {
	if name.Right(strings.Repeat("\u00e9", 32)) || name.Right(strings.Repeat("\u00e9", 33)) {
		t.Error("letters outside ASCII are a name")
	}
	for n := 1; n <= api.MaxName; n++ {
		for i := range n {
			for _, c := range []byte("/ \"-:@[`{\x00\x1f\x7f\x80\xe9\xff") {
				b := []byte(strings.Repeat("a", n))
				b[i] = c
				if name.Right(string(b)) {
					t.Fatalf("Right(%q)", b)
				}
			}
		}
	}
}

// P6.1: identifiers written out, for run numbers that are ordinary, less than 1 and at the bounds of 64 bits.
func TestRun(t *testing.T) {
	for n, want := range map[int]string{
		3:                   "r3",
		1:                   "r1",
		2:                   "r2",
		9:                   "r9",
		10:                  "r10",
		12:                  "r12",
		99:                  "r99",
		100:                 "r100",
		101:                 "r101",
		1234567890:          "r1234567890",
		1<<31 - 1:           "r2147483647",
		1 << 31:             "r2147483648",
		1 << 32:             "r4294967296",
		1 << 53:             "r9007199254740992",
		1<<53 + 1:           "r9007199254740993",
		999999999999999999:  "r999999999999999999",
		1000000000000000000: "r1000000000000000000",
		math.MaxInt - 1:     "r9223372036854775806",
		math.MaxInt:         "r9223372036854775807",
		0:                   "",
		-1:                  "",
		-2:                  "",
		-3:                  "",
		-1 << 31:            "",
		-1 << 32:            "",
		-1<<32 + 1:          "",
		math.MinInt + 1:     "",
		math.MinInt:         "",
	} {
		if got := name.Run(n); got != want {
			t.Errorf("Run(%d) = %q, want %q", n, got, want)
		}
	}
}

// P6.1: Run of integers of each length and sign, against the formatting of Go's library.
func TestRunOfAnyInteger(t *testing.T) {
	for _, n := range someInts() {
		want := ""
		if n >= 1 {
			want = fmt.Sprintf("r%d", n)
		}
		if got := name.Run(n); got != want {
			t.Errorf("Run(%d) = %q, want %q", n, got, want)
		}
	}
}

// P6.1: run identifiers written out, and strings that are none.
func TestNumber(t *testing.T) {
	for run, want := range map[string]int{
		"r1":                   1,
		"r3":                   3,
		"r9":                   9,
		"r10":                  10,
		"r12":                  12,
		"r100":                 100,
		"r9007199254740993":    9007199254740993,
		"r999999999999999999":  999999999999999999,
		"r1000000000000000000": 1000000000000000000,
		"r9223372036854775799": 9223372036854775799,
		"r9223372036854775800": 9223372036854775800,
		"r9223372036854775806": 9223372036854775806,
		"r9223372036854775807": 9223372036854775807,
		// Above 2^63 - 1: with 19 digits, with 20, and with more.
		"r9223372036854775808":    0,
		"r9223372036854775809":    0,
		"r9223372036854775810":    0,
		"r9223372036854775817":    0,
		"r9300000000000000000":    0,
		"r9999999999999999999":    0,
		"r10000000000000000000":   0,
		"r10000000000000000001":   0,
		"r12345678901234567890":   0,
		"r18446744073709551615":   0,
		"r18446744073709551616":   0,
		"r18446744073709551617":   0,
		"r18446744073709551619":   0,
		"r27670116110564327425":   0,
		"r92233720368547758070":   0,
		"r99999999999999999999":   0,
		"r184467440737095516161":  0,
		"r1000000000000000000000": 0,
		// No identifier at all.
		"":                      0,
		"r":                     0,
		"r0":                    0,
		"r00":                   0,
		"r01":                   0,
		"r012":                  0,
		"r001":                  0,
		"r00000000000000000001": 0,
		"r09223372036854775807": 0,
		"3":                     0,
		"0":                     0,
		"12":                    0,
		"R3":                    0,
		"s3":                    0,
		"q3":                    0,
		"rr3":                   0,
		"r3r":                   0,
		"3r":                    0,
		"r+3":                   0,
		"r-3":                   0,
		"r-0":                   0,
		"r+":                    0,
		"r-":                    0,
		"+r3":                   0,
		"-r3":                   0,
		"-3":                    0,
		"r3a":                   0,
		"ra3":                   0,
		"ra":                    0,
		"r12x":                  0,
		"r1 ":                   0,
		"r 1":                   0,
		" r1":                   0,
		"r1\n":                  0,
		"r1\x00":                0,
		"\x00r1":                0,
		"r\x001":                0,
		"r1/":                   0,
		"/r1":                   0,
		"a/r1":                  0,
		"r1.0":                  0,
		"r1.":                   0,
		"r.1":                   0,
		"r1e3":                  0,
		"r0x10":                 0,
		"r0b1":                  0,
		"r0o7":                  0,
		"rx10":                  0,
		"r1_000":                0,
		"r_1":                   0,
		"r1_":                   0,
		"r1,000":                0,
		"r--1":                  0,
		"r-9223372036854775808": 0,
		"r-9223372036854775807": 0,
		"r\u0663":               0, // a digit of another script
		"r1\u0663":              0,
		"r\uff13":               0, // a wide digit
		"r\xb3":                 0, // the byte of 3 with its bit 7
		"r1\xff":                0,
		"\xf23":                 0, // the byte of r with its bit 7
		"rInf":                  0,
		"rNaN":                  0,
	} {
		got, ok := name.Number(run)
		if got != want || ok != (want > 0) {
			t.Errorf("Number(%q) = %d, %v, want %d", run, got, ok, want)
		}
	}
}

// P6.1: all strings of up to six bytes of those that an identifier, or something like it, is made of.
func TestNumberOfShortStrings(t *testing.T) {
	right := 0
	allStrings("r0129+-", 6, func(s string) {
		got, ok := name.Number(s)
		want, wantOk := refNumber(s)
		if got != want || ok != wantOk {
			t.Fatalf("Number(%q) = %d, %v, want %d, %v", s, got, ok, want, wantOk)
		}
		if ok {
			right++
		}
	})
	// Numbers of 1 to 5 digits out of four, of which the first is not 0.
	if right != 3+12+48+192+768 {
		t.Errorf("%d of the strings are identifiers", right)
	}
}

// P6.1: each of the 256 bytes in the place of the r, of a digit, before and behind an identifier.
func TestNumberOfEveryByte(t *testing.T) {
	for c := range 256 {
		b := string([]byte{byte(c)})
		for _, s := range []string{b, b + "1", b + "12", "r" + b, "r" + b + "1", "r1" + b, "r1" + b + "2", "r12" + b, b + "r12"} {
			got, ok := name.Number(s)
			want, wantOk := refNumber(s)
			if got != want || ok != wantOk {
				t.Errorf("Number(%q) = %d, %v, want %d, %v", s, got, ok, want, wantOk)
			}
		}
	}
}

// P6.1: numbers of up to 40 digits around each power of 2 and of 10 and around multiples of 2^64, with and without leading zeros and signs.
func TestNumberOfLongDigits(t *testing.T) {
	var bigs []*big.Int
	for i := range 130 {
		bigs = append(bigs, new(big.Int).Lsh(big.NewInt(1), uint(i)))
		bigs = append(bigs, new(big.Int).Mul(big.NewInt(int64(i)), new(big.Int).Lsh(big.NewInt(1), 64)))
	}
	for i := range int64(40) {
		bigs = append(bigs, new(big.Int).Exp(big.NewInt(10), big.NewInt(i), nil))
	}
	for _, b := range bigs {
		for d := int64(-12); d <= 12; d++ {
			text := new(big.Int).Add(b, big.NewInt(d)).String()
			for _, prefix := range []string{"", "r", "r0", "r000000000", "r+", "r-", "R"} {
				got, ok := name.Number(prefix + text)
				want, wantOk := refNumber(prefix + text)
				if got != want || ok != wantOk {
					t.Fatalf("Number(%q) = %d, %v, want %d, %v", prefix+text, got, ok, want, wantOk)
				}
			}
		}
	}
}

// P6.1: very long strings of digits, zeros and letters are no identifiers.
func TestNumberOfVeryLongStrings(t *testing.T) {
	for _, n := range []int{20, 21, 64, 65, 100, 1000, 1 << 16, 1 << 20} {
		for _, s := range []string{
			"r" + strings.Repeat("9", n),
			"r1" + strings.Repeat("0", n),
			"r" + strings.Repeat("0", n) + "1",
			"r" + strings.Repeat("0", n),
			"r1" + strings.Repeat("x", n),
			strings.Repeat("r", n) + "1",
			strings.Repeat(" ", n) + "r1",
			"r1" + strings.Repeat(" ", n),
		} {
			if got, ok := name.Number(s); got != 0 || ok {
				t.Errorf("Number of %d bytes %.8q.. = %d, %v", len(s), s, got, ok)
			}
		}
	}
}

// P6.1: keys written out, whatever the strings are.
func TestKey(t *testing.T) {
	for _, x := range []struct{ workflow, run, want string }{
		{"order-7", "r2", "order-7/r2"},
		{"a", "r1", "a/r1"},
		{"", "", "/"},
		{"a", "", "a/"},
		{"", "r1", "/r1"},
		{"a/b", "c", "a/b/c"},
		{"a", "b/c", "a/b/c"},
		{"/", "/", "///"},
		{"/a", "r1/", "/a/r1/"},
		{" a ", " ", " a / "},
		{"a\x00b", "\xff\xfe", "a\x00b/\xff\xfe"},
		{"\u00e9\"", "%2F\\", "\u00e9\"/%2F\\"},
		{"r1", "r1", "r1/r1"},
		{".", "..", "./.."},
		{strings.Repeat("x", 5000), "y", strings.Repeat("x", 5000) + "/y"},
	} {
		if got := name.Key(x.workflow, x.run); got != x.want {
			t.Errorf("Key(%.20q, %q) = %.20q, want %.20q", x.workflow, x.run, got, x.want)
		}
	}
}

// P6.1: keys with one slash at each place, and strings with none, two and more.
func TestSplit(t *testing.T) {
	for _, x := range []struct {
		key, workflow, run string
		ok                 bool
	}{
		{"order-7/r2", "order-7", "r2", true},
		{"a/b/c", "", "", false},
		{"a", "", "", false},
		{"", "", "", false},
		{"/", "", "", true},
		{"/r1", "", "r1", true},
		{"a/", "a", "", true},
		{"a/b", "a", "b", true},
		{"//", "", "", false},
		{"///", "", "", false},
		{"a//", "", "", false},
		{"//a", "", "", false},
		{"a//b", "", "", false},
		{"/a/", "", "", false},
		{"/a/b", "", "", false},
		{"a/b/", "", "", false},
		{`a\b`, "", "", false},
		{`a\/b`, `a\`, "b", true},
		{"a|b", "", "", false},
		{"a%2Fb", "", "", false},
		{" / ", " ", " ", true},
		{"\x00/\xff", "\x00", "\xff", true},
		{"\u00e9/\u00e9", "\u00e9", "\u00e9", true},
		{"a\u2215b", "", "", false}, // another stroke
		{"a\u012fb", "", "", false}, // its number ends in the byte of a slash
		{"a\xafb", "", "", false},   // the byte of a slash with its bit 7
		{"a b", "", "", false},
		{strings.Repeat("x", 5000) + "/" + strings.Repeat("y", 5000), strings.Repeat("x", 5000), strings.Repeat("y", 5000), true},
		{strings.Repeat("x", 5000), "", "", false},
		{strings.Repeat("/", 5000), "", "", false},
	} {
		workflow, run, ok := name.Split(x.key)
		if workflow != x.workflow || run != x.run || ok != x.ok {
			t.Errorf("Split(%.20q) = %.20q, %.20q, %v, want %.20q, %.20q, %v", x.key, workflow, run, ok, x.workflow, x.run, x.ok)
		}
	}
}

// P6.1: all strings of up to seven bytes of slashes and of bytes beside them.
func TestSplitOfShortStrings(t *testing.T) {
	allStrings("/a.0\x00\xaf", 7, func(s string) {
		workflow, run, ok := name.Split(s)
		wantWorkflow, wantRun, wantOk := refSplit(s)
		if workflow != wantWorkflow || run != wantRun || ok != wantOk {
			t.Fatalf("Split(%q) = %q, %q, %v, want %q, %q, %v", s, workflow, run, ok, wantWorkflow, wantRun, wantOk)
		}
	})
}

// P6.1: each of the 256 bytes between two parts; only the slash splits.
func TestSplitOfEveryByte(t *testing.T) {
	for c := range 256 {
		b := string([]byte{byte(c)})
		for _, s := range []string{b, "x" + b, b + "y", "x" + b + "y", b + b, "x/" + b, b + "/y"} {
			workflow, run, ok := name.Split(s)
			wantWorkflow, wantRun, wantOk := refSplit(s)
			if workflow != wantWorkflow || run != wantRun || ok != wantOk {
				t.Errorf("Split(%q) = %q, %q, %v", s, workflow, run, ok)
			}
		}
	}
}

// R9: calls at the same time, and calls in another order, do not influence each other.
func TestIndependentCalls(t *testing.T) {
	var all sync.WaitGroup
	for worker := range 4 {
		all.Go(func() {
			for i := range 2000 {
				n := (i+worker*500)%2000 + 1
				s := strings.Repeat("a", n%70)
				got, ok := name.Number(name.Run(n))
				workflow, run, split := name.Split(name.Key(s, name.Run(n)))
				if got != n || !ok || workflow != s || run != fmt.Sprint("r", n) || !split || name.Right(s) != refRight(s) {
					t.Errorf("a result for %d among other calls differs", n)
				}
			}
		})
	}
	all.Wait()
}
