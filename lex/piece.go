package lex

import (
	"bytes"

	"gerund/api"
)

// mostLiteral is how many bytes a literal has at most.
const mostLiteral = 4

// piece is what b begins with, that has one byte at least: its kind, how many bytes it has, what is wrong with it.
func piece(b []byte) (int, int, api.Errno) {
	switch b[0] {
	case ' ', '\t', '\n', '\r':
		return skipped, 1, api.OK
	case '/':
		return comment(b)
	case '<':
		return skip(line(b), len("<"), ">")
	case '{':
		return action(b)
	case '%':
		return percent(b)
	case '\'':
		return literal(b)
	case ':':
		return api.TokColon, 1, api.OK
	case '|':
		return api.TokBar, 1, api.OK
	case ';':
		return api.TokSemi, 1, api.OK
	}
	return name(b)
}

// percent is what begins with a %.
func percent(b []byte) (int, int, api.Errno) {
	if bytes.HasPrefix(b, []byte("%%")) {
		return api.TokMark, len("%%"), api.OK
	}
	if bytes.HasPrefix(b, []byte("%{")) {
		return skip(b, len("%{"), "%}")
	}
	size := 1
	for size < len(b) && isSmall(b[size]) {
		size++
	}
	kind, ok := wordKind(string(b[1:size]))
	if !ok {
		return 0, 0, api.ErrForm
	}
	return kind, size, api.OK
}

// wordKind is the kind of a word behind a %.
func wordKind(word string) (int, bool) {
	switch word {
	case "token":
		return api.TokToken, true
	case "left":
		return api.TokLeft, true
	case "right":
		return api.TokRight, true
	case "nonassoc":
		return api.TokNon, true
	case "start":
		return api.TokStart, true
	case "prec":
		return api.TokPrec, true
	}
	return 0, false
}

// literal is what begins with a quote.
func literal(b []byte) (int, int, api.Errno) {
	for size := range min(len(b), mostLiteral) + 1 {
		if Literal(string(b[:size])) {
			return api.TokLiteral, size, api.OK
		}
	}
	if isCut(b) {
		return 0, 0, api.ErrEnd
	}
	return 0, 0, api.ErrForm
}

// isCut: is it a literal without its end?
func isCut(b []byte) bool {
	// A sign that has begun may be ended by an n, as one that hasn't may be an n.
	return Literal(string(b)+"'") || Literal(string(b)+"n'")
}

// isSign: does it stand in a literal's quotes?
func isSign(s string) bool {
	switch s {
	case `\n`, `\t`, `\\`, `\'`:
		return true
	case `'`, `\`:
		return false
	}
	return len(s) == 1 && ' ' <= s[0] && s[0] <= '~'
}

// name is what begins with any other byte.
func name(b []byte) (int, int, api.Errno) {
	size := nameSize(b)
	if size == 0 {
		return 0, 0, api.ErrForm
	}
	if size > api.MaxName {
		return 0, 0, api.ErrMany
	}
	return api.TokName, size, api.OK
}

// nameSize is how many bytes a name has, however many they are; 0, if none begins there.
func nameSize(b []byte) int {
	size := 0
	for size < len(b) && (isHead(b[size]) || size > 0 && isTail(b[size])) {
		size++
	}
	return size
}

// isHead: may a name begin with it?
func isHead(c byte) bool {
	return isSmall(c) || 'A' <= c && c <= 'Z' || c == '_'
}

// isTail: may it stand in a name, though none begins with it?
func isTail(c byte) bool {
	return '0' <= c && c <= '9' || c == '.'
}

// isSmall: is it a small letter?
func isSmall(c byte) bool {
	return 'a' <= c && c <= 'z'
}
