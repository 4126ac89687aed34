package lex_test

import (
	"bytes"
	"regexp"

	"gerund/api"
)

// A form is what tokens of a kind look like.
type form struct {
	kind    int
	pattern *regexp.Regexp
}

const (
	passed  = 0  // the kind of what is skipped
	percent = -1 // that of words behind a %
)

// A model reads texts by other means: by patterns.
type model struct {
	forms []form
	begun *regexp.Regexp // what would be skipped, if it ended
	cut   *regexp.Regexp // a literal without its end
}

// modelOf is a model that knows actions with so many pairs of braces within one another.
func modelOf(depth int) model {
	start := func(pattern string) *regexp.Regexp { return regexp.MustCompile(`(?s)^(?:` + pattern + `)`) }
	plain := `[^{}'"]|'(?:[^'\\]|\\.)*'|"(?:[^"\\]|\\.)*"`
	action := `\{(?:` + plain + `)*\}`
	for range depth - 1 {
		action = `\{(?:` + plain + `|` + action + `)*\}`
	}
	return model{
		forms: []form{
			{passed, start(`[ \t\n\r]|/\*.*?\*/|//[^\n]*|%\{.*?%\}|<[^>\n]*>`)},
			{passed, start(action)},
			{api.TokName, start(`[A-Za-z_][A-Za-z0-9_.]*`)},
			{api.TokLiteral, start(`'(?:[ -&(-\[\]-~]|\\[nt\\'])'`)},
			{percent, start(`%[a-z]+`)},
			{api.TokMark, start(`%%`)},
			{api.TokColon, start(`:`)},
			{api.TokBar, start(`\|`)},
			{api.TokSemi, start(`;`)},
		},
		begun: start(`/\*|%\{|<|\{`),
		cut:   start(`'(?:[ -&(-\[\]-~]|\\[nt\\']?)?\z`),
	}
}

// words are those that stand behind a %.
func words() map[string]int {
	return map[string]int{"%token": 3, "%left": 4, "%right": 5, "%nonassoc": 6, "%start": 7, "%prec": 8}
}

// piece is what a text begins with: its kind, its bytes, what is wrong with it.
func (m model) piece(b []byte) (int, int, api.Errno) {
	for _, f := range m.forms {
		s := f.pattern.Find(b)
		switch {
		case s == nil:
			continue
		case f.kind == api.TokName && len(s) > 20:
			return 0, 0, api.ErrMany
		case f.kind == percent && words()[string(s)] == 0:
			return 0, 0, api.ErrForm
		case f.kind == percent:
			return words()[string(s)], len(s), api.OK
		}
		return f.kind, len(s), api.OK
	}
	if m.begun.Match(b) || m.cut.Match(b) {
		return 0, 0, api.ErrEnd
	}
	return 0, 0, api.ErrForm
}

// tokens is what a text is to be answered.
func (m model) tokens(b []byte) ([]api.Token, complex128, api.Errno) {
	if len(b) > 4000 {
		return nil, 0, api.ErrMany
	}
	var l []api.Token
	marks := 0
	for i := 0; i < len(b) && marks < 2; {
		kind, size, e := m.piece(b[i:])
		if e != api.OK {
			return nil, placeOf(b, i), e
		}
		switch kind {
		case passed:
		case api.TokName, api.TokLiteral:
			l = append(l, api.Token{Kind: kind, Text: string(b[i : i+size]), At: placeOf(b, i)})
		default:
			l = append(l, api.Token{Kind: kind, At: placeOf(b, i)})
		}
		if kind == api.TokMark {
			marks++
		}
		i += size
	}
	return l, placeOf(b, len(b)), api.OK
}

// placeOf is the place of a text's byte: the line feeds ahead of it, and how far the last one is.
func placeOf(b []byte, i int) complex128 {
	line := 1 + bytes.Count(b[:i], []byte("\n"))
	col := i - bytes.LastIndexByte(b[:i], '\n')
	return complex(float64(line), float64(col))
}

// indexOf is the byte of a text that has a place; -1, if none has.
func indexOf(b []byte, at complex128) int {
	for i := range len(b) + 1 {
		if placeOf(b, i) == at {
			return i
		}
	}
	return -1
}
