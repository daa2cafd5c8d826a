package parse

import (
	"strings"

	"tracebook/num"
)

// The kinds of tokens.
const (
	end = iota
	faulty
	word
	number
	quoted
	sign
)

// token is a token with the position of its first byte; s is a word, a sign, or what a text has between its quotation marks.
type token struct {
	kind, at int
	s        string
	n        int
}

// tokens returns the tokens of a text, up to the end or the first faulty token.
func tokens(s string) []token {
	var l []token
	for at := 0; ; {
		for at < len(s) && isSpace(s[at]) {
			at++
		}
		t, size := next(s[at:])
		t.at = at
		l = append(l, t)
		if t.kind == end || t.kind == faulty {
			return l
		}
		at += size
	}
}

func isSpace(c byte) bool { return c == ' ' || c == '\t' || c == '\n' || c == '\r' }

func isLetter(c byte) bool { return 'a' <= c && c <= 'z' }

func isDigit(c byte) bool { return '0' <= c && c <= '9' }

func isWordByte(c byte) bool { return isLetter(c) || isDigit(c) || c == '_' }

// prefix returns the longest beginning of s whose bytes have a property.
func prefix(s string, has func(byte) bool) string {
	n := 0
	for n < len(s) && has(s[n]) {
		n++
	}
	return s[:n]
}

// next returns the token at the beginning of s, and its size.
func next(s string) (token, int) {
	switch {
	case s == "":
		return token{kind: end}, 0
	case isLetter(s[0]):
		w := prefix(s, isWordByte)
		return token{kind: word, s: w}, len(w)
	case isDigit(s[0]):
		digits := prefix(s, isDigit)
		n, ok := num.Parse(digits)
		if !ok {
			return token{kind: faulty}, 0
		}
		return token{kind: number, n: n}, len(digits)
	case s[0] == '"':
		return nextText(s)
	}
	for _, op := range []string{"!=", "<=", ">=", "|", ",", ":", "(", ")", "=", "<", ">", "+", "-", "*", "/", "%"} {
		if strings.HasPrefix(s, op) {
			return token{kind: sign, s: op}, len(op)
		}
	}
	return token{kind: faulty}, 0
}

// nextText returns the text that begins with a quotation mark.
func nextText(s string) (token, int) {
	inside := prefix(s[1:], func(c byte) bool { return 32 <= c && c <= 126 && c != '"' })
	size := len(inside) + 2
	if size > len(s) || s[size-1] != '"' {
		return token{kind: faulty}, 0
	}
	return token{kind: quoted, s: inside}, size
}
