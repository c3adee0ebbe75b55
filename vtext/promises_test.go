package vtext_test

import (
	"maps"
	"math"
	"math/rand"
	"regexp"
	"slices"
	"strings"
	"testing"

	"workflow/api"
	"workflow/value"
	"workflow/vtext"
)

// sequences calls use with s and with every text that continues it by at most count pieces.
func sequences(s string, pieces []string, count int, use func(string)) {
	use(s)
	if count == 0 {
		return
	}
	for _, piece := range pieces {
		sequences(s+piece, pieces, count-1, use)
	}
}

// samples calls use with texts of all sorts: all short ones of several alphabets, and longer ones that were damaged.
func samples(use func(string)) {
	sequences("", []string{"[", "]", "{", "}", ",", ":", " ", `"a"`, `"b"`, "1", "null"}, 4, use)
	sequences("", []string{`"`, `\`, "n", "x", "4", "a", "g", "\n", "\x7f"}, 5, use)
	sequences("", []string{"-", "0", "1", "9", " ", "[", "]", "e"}, 4, use)
	sequences("", []string{`{"a":1,`, `{"b":`, `"a":`, `"\x61"`, "1", "{}", ",", "}"}, 4, use)
	sequences("", []string{"9223372036854775807", "9223372036854775808", "-", "[", ",", "]", `{"a":`}, 4, use)
	sequences("", []string{strings.Repeat("[", 14), strings.Repeat("]", 14), "[", "]", `{"a":`, "}", "2,", "2"}, 4, use)
	sequences("", []string{"[" + strings.Repeat("0,", 997), "0", "[", "]", ",", `{"a":`, "}"}, 4, use)
	random := rand.New(rand.NewSource(3))
	for _, s := range slices.Sorted(maps.Keys(printed())) {
		for range 300 {
			use(damaged(random, s))
		}
	}
}

// damaged returns a text after some random changes.
func damaged(random *rand.Rand, s string) string {
	pieces := []string{"", " ", "\n", "\t\r", `"`, `\`, ",", ":", "[", "]", "{", "}", "0", "-", "1", "n", "t", "x", "f", "\x00", "\x80", "\v", "\xa0"}
	for range random.Intn(4) {
		i := random.Intn(len(s) + 1)
		j := min(len(s), i+random.Intn(3))
		s = s[:i] + pieces[random.Intn(len(pieces))] + s[j:]
	}
	return s
}

// P3.1: Parse returns what the chapter says, step by step, for texts of all sorts.
func TestParseReference(t *testing.T) {
	counts := map[api.Errno]int{}
	samples(func(s string) {
		v, at, e := vtext.Parse(s)
		wantV, wantAt, wantE := referenceParse(s)
		if at != wantAt || e != wantE || !value.Same(v, wantV) {
			t.Fatalf("Parse(%.80q) = %v, %d, %d; want %v, %d, %d", s, v, at, e, wantV, wantAt, wantE)
		}
		counts[e]++
	})
	for _, e := range []api.Errno{api.OK, api.ErrShort, api.ErrForm, api.ErrRange, api.ErrDepth, api.ErrSize, api.ErrTwice} {
		if counts[e] < 20 {
			t.Errorf("only %d texts have the error %d", counts[e], e)
		}
	}
}

// randomPayload returns a payload whose depth is at most depth.
func randomPayload(random *rand.Rand, depth int) api.Value {
	switch n := random.Intn(9); {
	case n == 0:
		return null()
	case n == 1:
		return boolean(random.Intn(2))
	case n == 2:
		return integer([]int{math.MinInt, math.MaxInt, 0, -1, 10, int(random.Uint64()), random.Intn(1000)}[random.Intn(7)])
	case n <= 4 || depth == 1:
		return text(randomText(random, 9))
	}
	v := list()
	for range random.Intn(4) {
		v.Items = append(v.Items, randomPayload(random, depth-1))
	}
	if random.Intn(2) == 0 {
		v.Kind = api.VMap
		for i := range v.Items {
			v.Keys = append(v.Keys, string([]byte{byte(i * 64)})+randomText(random, 3))
		}
	}
	return v
}

func randomText(random *rand.Rand, most int) string {
	b := make([]byte, random.Intn(most+1))
	random.Read(b)
	return string(b)
}

// P3.2: every valid payload is parsed from its own text.
func TestRoundTrip(t *testing.T) {
	random := rand.New(rand.NewSource(2))
	for range 20000 {
		v := randomPayload(random, 1+random.Intn(5))
		s, e := vtext.Print(v)
		if e != api.OK {
			t.Fatalf("Print(%v): %d", v, e)
		}
		wantParse(t, s, v, 0, api.OK)
	}
}

// gaps returns for each offset of a valid text whether blanks are allowed there.
func gaps(s string) []bool {
	allowed := make([]bool, len(s)+1)
	allowed[0], allowed[len(s)] = true, true
	inside := false
	for i := 0; i < len(s); i++ {
		switch {
		case inside && s[i] == '\\':
			i++
		case s[i] == '"':
			inside = !inside
		case !inside && strings.Contains("[]{},: \t\n\r", s[i:i+1]):
			allowed[i], allowed[i+1] = true, true
		}
	}
	return allowed
}

// P3.2: blanks are allowed around the text and around the signs, and nowhere else.
func TestBlanks(t *testing.T) {
	for s, v := range printed() {
		wide, tight := "", ""
		literal := strings.Contains(s, "\"")
		for i, allowed := range gaps(s) {
			for _, blanks := range []string{" ", "\t", "\n", "\r", "\r\n\t  "} {
				padded := s[:i] + blanks + s[i:]
				if allowed {
					wantParse(t, padded, v, 0, api.OK)
				} else if got, _, e := vtext.Parse(padded); !literal && e != api.ErrForm || e == api.OK && value.Same(got, v) {
					t.Errorf("Parse(%q) = %v, %d", padded, got, e)
				}
			}
			if allowed {
				wide += " \n\t\r "
			}
			if i < len(s) && (s[i] != ' ' || !allowed) {
				wide, tight = wide+s[i:i+1], tight+s[i:i+1]
			}
		}
		wantParse(t, wide, v, 0, api.OK)
		wantParse(t, tight, v, 0, api.OK)
		wantParse(t, strings.Repeat(" \n", 50000)+s+strings.Repeat("\t\r", 50000), v, 0, api.OK)
	}
}

const canonicalByte = `(?:[ !#-\[\]-~]|\\["\\nt]|\\x(?:0[0-8b-f]|1[0-9a-f]|7f|[89a-f][0-9a-f]))`

var (
	canonicalLiteral = regexp.MustCompile(`"` + canonicalByte + `*"`)
	canonicalBlanks  = regexp.MustCompile(`^(?:[^ \t\n\r,:]|[,:] )*$`)
)

// canonical reports whether a text is a canonical form, by its bytes.
func canonical(s string) bool {
	m := read(s)
	if m.err != api.OK || m.mixed {
		return false
	}
	bare := canonicalLiteral.ReplaceAllString(s, "s")
	return !strings.Contains(bare, `"`) && canonicalBlanks.MatchString(bare)
}

// P3.3: what is accepted can be printed and read again, and exactly the canonical forms are printed as they are.
func TestPrintParsed(t *testing.T) {
	forms := map[bool]int{}
	samples(func(s string) {
		v, _, e := vtext.Parse(s)
		if e != api.OK {
			return
		}
		form, e := vtext.Print(v)
		if e != api.OK {
			t.Fatalf("Print of what %.80q stands for: %d", s, e)
		}
		wantParse(t, form, v, 0, api.OK)
		if !canonical(form) {
			t.Errorf("Print of what %.80q stands for is %.80q", s, form)
		}
		is := canonical(s)
		if (form == s) != is {
			t.Errorf("%.80q is printed as %.80q", s, form)
		}
		forms[is]++
	})
	if forms[true] < 100 || forms[false] < 100 {
		t.Errorf("only %d canonical forms and %d others", forms[true], forms[false])
	}
	for s := range printed() {
		if !canonical(s) {
			t.Errorf("%s is not canonical", s)
		}
	}
}

// P3.4: ErrForm depends only on the bytes up to its offset, and the bytes before it are no malformed text.
func TestErrFormIsFirst(t *testing.T) {
	suffixes := []string{"", " ", "1", `"`, "]", "}", ":", ",", "x", `"}`, "\x00", "[[[[[[[[[[[[[[[[[[[[", strings.Repeat("9", 30)}
	samples(func(s string) {
		_, k, e := vtext.Parse(s)
		if e != api.ErrForm {
			return
		}
		for _, suffix := range suffixes {
			if _, at, e := vtext.Parse(s[:k+1] + suffix); at != k || e != api.ErrForm {
				t.Fatalf("Parse(%.80q) fails at %d, but with %q behind that byte with %d, %d", s, k, suffix, at, e)
			}
		}
		_, at, e := vtext.Parse(s[:k])
		whole := e == api.OK && at == 0 || e == api.ErrShort && at == k
		if !whole && !(e == api.ErrRange && regexp.MustCompile(`^-?[0-9]+$`).MatchString(s[at:k])) {
			t.Fatalf("Parse(%.80q) fails at %d, but the bytes before with %d, %d", s, k, at, e)
		}
	})
}
