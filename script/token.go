package script

import (
	"strings"

	"assize/api"
)

// What a token is.
const (
	none   = iota // nothing that could stand anywhere
	end           // the text ends
	name          // a NAME
	number        // a NUMBER
	fixed         // a word or a sign: its text tells which
)

type token struct {
	class int
	text  string
	n     int // of a NUMBER
}

// The longer ones stand ahead: the longest that stands there is taken.
var signs = [...]string{
	"->", "==", "!=", "<=", ">=",
	"{", "}", "(", ")", "[", "]", ";", ":", ",", ".", "=", "<", ">", "+", "-", "*", "/", "%",
}

// isWord: is it a word that is no name?
func isWord(s string) bool {
	switch s {
	case "contract", "slot", "map", "fn", "open", "let", "if", "else", "while", "return",
		"need", "pay", "note", "ask", "value", "gas", "true", "false", "self", "caller",
		"height", "balance", "who", "num", "flag", "or", "and", "not":
		return true
	}
	return false
}

func isLetter(b byte) bool { return b >= 'a' && b <= 'z' }

func isDigit(b byte) bool { return b >= '0' && b <= '9' }

func goesOn(b byte) bool { return isLetter(b) || isDigit(b) || b == '_' }

func isName(s string) bool {
	return s != "" && len(s) <= api.MaxName && isLetter(s[0]) && span(s, goesOn) == len(s) && !isWord(s)
}

// span is how many bytes of s, from its beginning on, are such.
func span(s string, such func(byte) bool) int {
	for i := range len(s) {
		if !such(s[i]) {
			return i
		}
	}
	return len(s)
}

// behindGap is s from its first token on.
func behindGap(s string) string {
	for s != "" {
		switch s[0] {
		case ' ', '\n':
			s = s[1:]
		case '#':
			s = s[span(s, func(b byte) bool { return b != '\n' }):]
		default:
			return s
		}
	}
	return s
}

// cut is the token at the very beginning of s, and what stands behind it.
func cut(s string) (token, string) {
	if s == "" {
		return token{class: end}, ""
	}
	if isLetter(s[0]) {
		n := span(s, goesOn)
		return wordOf(s[:n]), s[n:]
	}
	if isDigit(s[0]) {
		n := span(s, isDigit)
		return numberOf(s[:n]), s[n:]
	}
	for _, sign := range signs {
		if strings.HasPrefix(s, sign) {
			return token{class: fixed, text: sign}, s[len(sign):]
		}
	}
	return token{}, s
}

func wordOf(s string) token {
	switch {
	case isWord(s):
		return token{class: fixed, text: s}
	case isName(s):
		return token{class: name, text: strings.Clone(s)} // a mere cut would keep all of the text
	}
	return token{}
}

func numberOf(digits string) token {
	if len(digits) > 1 && digits[0] == '0' {
		return token{}
	}
	n := 0
	for i := range len(digits) {
		n = 10*n + int(digits[i]-'0')
		if n > api.MaxNumber {
			return token{}
		}
	}
	return token{class: number, n: n}
}
