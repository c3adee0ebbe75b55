package name_test

import (
	"math"
	"strings"
	"testing"

	"workflow/api"
	"workflow/name"
)

// P6.2: Number of Run is the number, for the first numbers and for those of each length up to 2^63 - 1.
func TestNumberOfRun(t *testing.T) {
	numbers := someInts()
	for n := range 100000 {
		numbers = append(numbers, n+1, math.MaxInt-n)
	}
	for _, n := range numbers {
		if n < 1 {
			continue
		}
		if got, ok := name.Number(name.Run(n)); got != n || !ok {
			t.Fatalf("Number(%q) = %d, %v, want %d", name.Run(n), got, ok, n)
		}
	}
}

// P6.2: the identifiers of different runs differ.
func TestRunsDiffer(t *testing.T) {
	numbers := someInts()
	for n := range 100000 {
		numbers = append(numbers, n+1)
	}
	runs := map[string]int{}
	for _, n := range numbers {
		if n < 1 {
			continue
		}
		run := name.Run(n)
		if before, ok := runs[run]; ok && before != n {
			t.Fatalf("Run(%d) and Run(%d) are both %q", before, n, run)
		}
		runs[run] = n
	}
}

// P6.2: a string that Number takes is the identifier of that number, so that no run has two.
func TestRunOfNumber(t *testing.T) {
	allStrings("r019+ ", 6, func(s string) {
		if n, ok := name.Number(s); ok && name.Run(n) != s {
			t.Fatalf("Number(%q) = %d, and Run(%d) = %q", s, n, n, name.Run(n))
		}
	})
}

// P6.2: numbers below 1 have no identifier, so that Number finds none.
func TestNumberOfNoRun(t *testing.T) {
	for _, n := range someInts() {
		if n >= 1 {
			continue
		}
		if got, ok := name.Number(name.Run(n)); name.Run(n) != "" || got != 0 || ok {
			t.Errorf("Run(%d) = %q, and its Number %d, %v", n, name.Run(n), got, ok)
		}
	}
}

// parts returns strings without a slash, empty and long ones among them.
func parts() []string {
	list := []string{"order-7", "r2", strings.Repeat("x", api.MaxName), strings.Repeat("\xff", 5000), "caf\u00e9", "\u012f", "\u2215", "a b\n", `\`}
	allStrings("ar1.\x00\xaf", 3, func(s string) { list = append(list, s) })
	return list
}

// P6.3: Split returns the parts of a key if they contain no slash.
func TestSplitOfKey(t *testing.T) {
	list := parts()
	for _, w := range list {
		for _, r := range list {
			workflow, run, ok := name.Split(name.Key(w, r))
			if workflow != w || run != r || !ok {
				t.Fatalf("Split(%.20q) = %.20q, %.20q, %v", name.Key(w, r), workflow, run, ok)
			}
		}
	}
}

// P6.3: a key of parts of which one contains a slash is not split.
func TestSplitOfKeyWithSlashes(t *testing.T) {
	slashed := []string{"/", "//", "/a", "a/", "a/b", "/a/"}
	list := append(parts(), slashed...)
	for _, s := range slashed {
		for _, other := range list {
			for _, key := range []string{name.Key(s, other), name.Key(other, s)} {
				if workflow, run, ok := name.Split(key); workflow != "" || run != "" || ok {
					t.Fatalf("Split(%.20q) = %.20q, %.20q, %v", key, workflow, run, ok)
				}
			}
		}
	}
}

// P6.3: the key of the parts that Split returns is the key that was split.
func TestKeyOfSplit(t *testing.T) {
	split := 0
	allStrings("/ar1\x00\xaf", 6, func(s string) {
		workflow, run, ok := name.Split(s)
		if !ok {
			return
		}
		split++
		if name.Key(workflow, run) != s {
			t.Fatalf("Key(%q, %q) is not %q", workflow, run, s)
		}
	})
	// n places for the slash and five bytes for each of the other n - 1 places.
	if want := 1 + 2*5 + 3*25 + 4*125 + 5*625 + 6*3125; split != want {
		t.Errorf("%d strings are split, want %d", split, want)
	}
}

// P6.4: a valid name contains no slash, no blank and no quote, at any place.
func TestNamesHoldNoDelimiter(t *testing.T) {
	allStrings("a_7Z/ \"\t", 5, func(s string) {
		if name.Right(s) && strings.ContainsAny(s, "/ \"\t") {
			t.Fatalf("Right(%q)", s)
		}
	})
}

// P6.4: a name stays valid up to MaxName bytes by each letter, digit and underscore at its end, and by no other byte.
func TestLongerNames(t *testing.T) {
	for _, s := range []string{"a", "Z", "_", "_a1", "x9", "order_item"} {
		for n := len(s); n <= api.MaxName+2; n++ {
			for c := range 256 {
				longer := s + string([]byte{byte(c)})
				if want := n < api.MaxName && holds(words, byte(c)); name.Right(longer) != want {
					t.Fatalf("Right(%q) = %v, with %d bytes", longer, name.Right(longer), n+1)
				}
			}
			s += words[n*7%len(words):][:1]
		}
	}
}

// P6.4: each part of a valid name is valid, unless it begins with a digit.
func TestPartsOfNames(t *testing.T) {
	long := (first + digits + first)[20 : 20+api.MaxName]
	for start := range long {
		for end := start + 1; end <= len(long); end++ {
			s := long[start:end]
			if name.Right(s) == holds(digits, s[0]) {
				t.Fatalf("Right(%q) = %v", s, name.Right(s))
			}
		}
	}
}

// Example 1 to 3, and a name, a run and a key together.
func TestExamples(t *testing.T) {
	if !name.Right("_a1") || name.Right("1a") || name.Right("") || name.Right("a-b") {
		t.Error("example 1")
	}
	if n, ok := name.Number("r12"); n != 12 || !ok {
		t.Error("example 2:", n, ok)
	}
	if n, ok := name.Number("r012"); n != 0 || ok {
		t.Error("example 2:", n, ok)
	}
	if workflow, run, ok := name.Split("order-7/r2"); workflow != "order-7" || run != "r2" || !ok {
		t.Error("example 3:", workflow, run, ok)
	}
	for _, key := range []string{"a/b/c", "a"} {
		if workflow, run, ok := name.Split(key); workflow != "" || run != "" || ok {
			t.Error("example 3:", key, workflow, run, ok)
		}
	}
}
