package lex

import (
	"bytes"

	"gerund/api"
)

// skipped is the kind of what is no token.
const skipped = 0

// skip is what ends with the next end from a byte on: its kind, its bytes, what is wrong.
func skip(b []byte, from int, end string) (int, int, api.Errno) {
	i := bytes.Index(b[from:], []byte(end))
	if i < 0 {
		return 0, 0, api.ErrEnd
	}
	return skipped, from + i + len(end), api.OK
}

// comment is what begins with a /.
func comment(b []byte) (int, int, api.Errno) {
	if bytes.HasPrefix(b, []byte("/*")) {
		return skip(b, len("/*"), "*/")
	}
	if bytes.HasPrefix(b, []byte("//")) {
		return skipped, len(line(b)), api.OK
	}
	return 0, 0, api.ErrForm
}

// line is b up to the end of its line.
func line(b []byte) []byte {
	l, _, _ := bytes.Cut(b, []byte("\n"))
	return l
}

// action is what begins with a {.
func action(b []byte) (int, int, api.Errno) {
	at, open := 0, 0
on:
	if at == len(b) {
		return 0, 0, api.ErrEnd
	}
	switch b[at] {
	case '{':
		open++
	case '}':
		open--
	case '\'', '"':
		size, e := quotedSize(b[at:])
		if e != api.OK {
			return 0, 0, e
		}
		at += size
		goto on
	}
	at++
	if open > 0 {
		goto on
	}
	return skipped, at, api.OK
}

// quotedSize is how many bytes an action's text has that begins with a quote, and ends with the next one of its kind.
func quotedSize(b []byte) (int, api.Errno) {
	at := 1
on:
	// A backslash at the very end leads beyond it.
	if at >= len(b) {
		return 0, api.ErrEnd
	}
	switch b[at] {
	case b[0]:
		return at + 1, api.OK
	case '\\':
		at += 2
	default:
		at++
	}
	goto on
}
