package yacc_test

import (
	"regexp"
	"slices"
	"strings"

	"gerund/api"
)

// A model reads tokens by other means: each is a letter of its kind, and patterns tell which words of letters are a source.

// letters are the kinds' letters, by their numbers from 1 on; any other kind's is a question mark.
const letters = "nltLRNspmcb;"

// letter is a kind's.
func letter(kind int) byte {
	if kind < 1 || kind > len(letters) {
		return '?'
	}
	return letters[kind-1]
}

// kindOf is a letter's kind; 99, which there is none of, of a question mark.
func kindOf(c byte) int {
	if i := strings.IndexByte(letters, c); i >= 0 {
		return i + 1
	}
	return 99
}

// word is tokens' letters.
func word(l []api.Token) string {
	b := make([]byte, len(l))
	for i, t := range l {
		b[i] = letter(t.Kind)
	}
	return string(b)
}

// model is the patterns.
type model struct {
	whole, decl, group, rule *regexp.Regexp
	known                    map[string]bool // which words are known to be a beginning, or none
}

// newModel is one.
func newModel() model {
	decl, rule := `(?:[tLRN][nl]+|sn)`, `[nl]*(?:p[nl])?`
	group := `nc` + rule + `(?:b` + rule + `)*;`
	return model{
		whole: regexp.MustCompile(`^` + decl + `*m(?:` + group + `)+m?$`),
		decl:  regexp.MustCompile(decl),
		group: regexp.MustCompile(group),
		rule:  regexp.MustCompile(`[cb]` + rule),
		known: map[string]bool{},
	}
}

// endings are what is behind any beginning of a source, so that it becomes one.
func endings() []string {
	return []string{"", ";", "n;", "c;", "nc;", "mnc;", "nmnc;"}
}

// begins: does a source begin with it?
func (m model) begins(w string) bool {
	begins, ok := m.known[w]
	if !ok {
		begins = slices.ContainsFunc(endings(), func(s string) bool { return m.whole.MatchString(w + s) })
		m.known[w] = begins
	}
	return begins
}

// refs are those of some tokens.
func refs(l []api.Token) []api.Ref {
	var r []api.Ref
	for _, t := range l {
		r = append(r, api.Ref{Text: t.Text, At: t.At})
	}
	return r
}

// of is what tokens are to be answered.
func (m model) of(l []api.Token, end complex128) (api.Source, complex128, api.Errno) {
	w := word(l)
	for i := range w {
		if !m.begins(w[:i+1]) {
			return api.Source{}, l[i].At, api.ErrForm
		}
	}
	if !m.whole.MatchString(w) {
		return api.Source{}, end, api.ErrEnd
	}
	var s api.Source
	mark := strings.IndexByte(w, 'm')
	for _, x := range m.decl.FindAllStringIndex(w[:mark], -1) {
		s.Decls = append(s.Decls, api.Decl{Kind: l[x[0]].Kind, Names: refs(l[x[0]+1 : x[1]])})
	}
	for _, x := range m.group.FindAllStringIndex(w[mark:], -1) {
		s.Prods = append(s.Prods, m.prods(l[mark+x[0]:mark+x[1]])...)
	}
	return s, 0, api.OK
}

// prods are a group's.
func (m model) prods(l []api.Token) []api.Prod {
	var all []api.Prod
	w := word(l)
	for _, x := range m.rule.FindAllStringIndex(w, -1) {
		right, prec, _ := strings.Cut(w[x[0]+1:x[1]], "p")
		p := api.Prod{Left: refs(l[:1])[0], Right: refs(l[x[0]+1 : x[0]+1+len(right)])}
		if prec != "" {
			p.Prec = refs(l[x[1]-1 : x[1]])[0]
		}
		all = append(all, p)
	}
	return all
}
