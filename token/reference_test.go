package token_test

import (
	"fmt"
	"math/big"
	"regexp"
	"strconv"
	"strings"

	"workflow/api"
)

// The keywords, as the chapter lists them.
const keywords = "and, await, case, catch, check, else, false, func, go, if, let, not, null, on, or, query, return, saga, select, signal, throw, true, try, undo, update, var, while"

// The signs, as the chapter lists them.
const signs = "== != <= >= ( ) { } [ ] , ; . : = < > + - * / %"

// One pattern for each form of the chapter. A class of ASCII bytes matches no part of another rune.
var (
	blanksForm  = regexp.MustCompile(`\A[ \t\n]*`)
	wordForm    = regexp.MustCompile(`\A[A-Za-z_][A-Za-z0-9_]*`)
	integerForm = regexp.MustCompile(`\A[0-9]+`)
	zerosForm   = regexp.MustCompile(`\A0[0-9]`)
	glueForm    = regexp.MustCompile(`\A[A-Za-z_]`)
	signForm    = regexp.MustCompile(`\A(==|!=|<=|>=|[(){}\[\],;.:=<>+*/%-])`)
	textForm    = regexp.MustCompile(`\A"([ !#-\[\]-~]|\\["\\nt]|\\x[0-9a-f][0-9a-f])*"`)
	openForm    = regexp.MustCompile(`\A"([ !#-\[\]-~]|\\["\\nt]|\\x[0-9a-f][0-9a-f])*`)
	cutForm     = regexp.MustCompile(`\A(\\(x[0-9a-f]?)?)?\z`)
)

// refKeyword looks a word up in the list of the chapter.
func refKeyword(s string) bool {
	for _, k := range strings.Split(keywords, ", ") {
		if k == s {
			return true
		}
	}
	return false
}

// refScan is Scan by patterns.
func refScan(src string) ([]api.Token, int, api.Errno) {
	if len(src) > 16384 {
		return nil, 0, api.ErrSize
	}
	var l []api.Token
	rest := src
	for {
		rest = rest[len(blanksForm.FindString(rest)):]
		at := len(src) - len(rest)
		if rest == "" {
			return append(l, api.Token{At: at}), 0, api.OK
		}
		t, size, e := refToken(rest)
		if e != api.OK {
			return nil, at, e
		}
		t.At = at
		l = append(l, t)
		rest = rest[size:]
	}
}

// refToken is the token at the beginning of s, with its size.
func refToken(s string) (api.Token, int, api.Errno) {
	if w := wordForm.FindString(s); w != "" {
		switch {
		case len(w) > 64:
			return api.Token{}, 0, api.ErrName
		case refKeyword(w):
			return api.Token{Kind: 2, Text: w}, len(w), api.OK
		}
		return api.Token{Kind: 1, Text: w}, len(w), api.OK
	}
	if d := integerForm.FindString(s); d != "" {
		n, _ := new(big.Int).SetString(d, 10)
		switch {
		case zerosForm.MatchString(s) || glueForm.MatchString(s[len(d):]):
			return api.Token{}, 0, api.ErrForm
		case !n.IsInt64():
			return api.Token{}, 0, api.ErrRange
		}
		return api.Token{Kind: 3, Int: int(n.Int64())}, len(d), api.OK
	}
	if s[0] == '"' {
		return refText(s)
	}
	if x := signForm.FindString(s); x != "" {
		return api.Token{Kind: 5, Text: x}, len(x), api.OK
	}
	return api.Token{}, 0, api.ErrForm
}

// refText is the string literal at the beginning of s: what a closed literal stands for is what it stands for in Go.
func refText(s string) (api.Token, int, api.Errno) {
	if literal := textForm.FindString(s); literal != "" {
		text, err := strconv.Unquote(literal)
		if err != nil {
			panic(err)
		}
		if len(text) > 4096 {
			return api.Token{}, 0, api.ErrSize
		}
		return api.Token{Kind: 4, Text: text}, len(literal), api.OK
	}
	if cutForm.MatchString(s[len(openForm.FindString(s)):]) {
		return api.Token{}, 0, api.ErrShort
	}
	return api.Token{}, 0, api.ErrForm
}

// refQuote writes a literal by a list of the 256 bytes.
func refQuote(s string) string {
	forms := [256]string{'"': `\"`, '\\': `\\`, 10: `\n`, 9: `\t`}
	for c := 32; c <= 126; c++ {
		if forms[c] == "" {
			forms[c] = string(rune(c))
		}
	}
	for c := range 256 {
		if forms[c] == "" {
			forms[c] = fmt.Sprintf(`\x%02x`, c)
		}
	}
	l := `"`
	for _, c := range []byte(s) {
		l += forms[c]
	}
	return l + `"`
}

// refSpell writes each token and a space, and removes the last space.
func refSpell(l []api.Token) string {
	s := ""
	for _, t := range l {
		switch t.Kind {
		case 1, 2, 5:
			s += t.Text + " "
		case 3:
			s += big.NewInt(int64(t.Int)).String() + " "
		case 4:
			s += refQuote(t.Text) + " "
		}
	}
	return strings.TrimSuffix(s, " ")
}
