package token

import (
	"strconv"
	"strings"

	"workflow/api"
)

const (
	blanks  = " \t\n"
	digits  = "0123456789"
	letters = "abcdefghijklmnopqrstuvwxyzABCDEFGHIJKLMNOPQRSTUVWXYZ_"

	// The signs of two bytes end in =; the first byte of one of them is no sign alone.
	signs        = "(){}[],;.:=<>+-*/%"
	beforeEquals = "=!<>"
)

// Scan splits a program into tokens and returns the offset of an error.
func Scan(src string) ([]api.Token, int, api.Errno) {
	if len(src) > api.MaxSource {
		return nil, 0, api.ErrSize
	}
	var l []api.Token
	at := span(src, in(blanks))
	for at < len(src) {
		t, size, e := next(src[at:])
		if e != api.OK {
			return nil, at, e
		}
		t.At = at
		l = append(l, t)
		at += size
		at += span(src[at:], in(blanks))
	}
	return append(l, api.Token{Kind: api.TokEnd, At: len(src)}), 0, api.OK
}

// in returns a function that reports whether a rune is in a set.
func in(set string) func(rune) bool {
	return func(c rune) bool { return strings.ContainsRune(set, c) }
}

// span returns how many bytes at the beginning of s belong to a class. Each byte is a rune of its own:
// a program is not UTF-8, and bytes of 128 and more belong to no class.
func span(s string, class func(rune) bool) int {
	for i := range len(s) {
		if !class(rune(s[i])) {
			return i
		}
	}
	return len(s)
}

// starts reports whether the first byte of s, if there is one, belongs to a class.
func starts(s string, class func(rune) bool) bool { return s != "" && class(rune(s[0])) }

// next returns the token at the beginning of s, which is not empty, and its size.
func next(s string) (api.Token, int, api.Errno) {
	switch {
	case starts(s, in(letters)):
		return word(s)
	case starts(s, in(digits)):
		return integer(s)
	case s[0] == '"':
		return literal(s)
	}
	return sign(s)
}

func word(s string) (api.Token, int, api.Errno) {
	n := span(s, in(letters+digits))
	if n > api.MaxName {
		return api.Token{}, 0, api.ErrName
	}
	kind := api.TokName
	if Keyword(s[:n]) {
		kind = api.TokKeyword
	}
	return api.Token{Kind: kind, Text: s[:n]}, n, api.OK
}

func integer(s string) (api.Token, int, api.Errno) {
	n := span(s, in(digits))
	if n > 1 && s[0] == '0' || starts(s[n:], in(letters)) {
		return api.Token{}, 0, api.ErrForm
	}
	value, err := strconv.Atoi(s[:n])
	if err != nil { // of digits alone, only one that is too great
		return api.Token{}, 0, api.ErrRange
	}
	return api.Token{Kind: api.TokInt, Int: value}, n, api.OK
}

func sign(s string) (api.Token, int, api.Errno) {
	n := 1
	if starts(s, in(beforeEquals)) && starts(s[1:], in("=")) {
		n = 2
	} else if !starts(s, in(signs)) {
		return api.Token{}, 0, api.ErrForm
	}
	return api.Token{Kind: api.TokSign, Text: s[:n]}, n, api.OK
}

// literal reads the string literal whose opening quotation mark begins s.
func literal(s string) (api.Token, int, api.Errno) {
	var text []byte
	for i := 1; i < len(s); {
		if s[i] == '"' {
			// Not before: a wrong byte, or the end of the text, counts more than the size.
			if len(text) > api.MaxText {
				return api.Token{}, 0, api.ErrSize
			}
			return api.Token{Kind: api.TokText, Text: string(text)}, i + 1, api.OK
		}
		c, size, e := character(s[i:])
		if e != api.OK {
			return api.Token{}, 0, e
		}
		text = append(text, c)
		i += size
	}
	return api.Token{}, 0, api.ErrShort
}

// character reads the byte that the beginning of s, which is not empty, stands for within a literal.
func character(s string) (byte, int, api.Errno) {
	if starts(s, isPlain) {
		return s[0], 1, api.OK
	}
	if s[0] != '\\' {
		return 0, 0, api.ErrForm
	}
	if len(s) == 1 {
		return 0, 0, api.ErrShort
	}
	switch s[1] {
	case '"', '\\':
		return s[1], 2, api.OK
	case 'n':
		return '\n', 2, api.OK
	case 't':
		return '\t', 2, api.OK
	case 'x':
		return hexByte(s)
	}
	return 0, 0, api.ErrForm
}

// hexByte reads the escape whose \x begins s.
func hexByte(s string) (byte, int, api.Errno) {
	c := 0
	for i := 2; i < 4; i++ {
		if i == len(s) {
			return 0, 0, api.ErrShort
		}
		digit := strings.IndexByte(hexDigits, s[i])
		if digit < 0 {
			return 0, 0, api.ErrForm
		}
		c = c<<4 | digit
	}
	return byte(c), 4, api.OK
}
