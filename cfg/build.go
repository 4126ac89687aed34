package cfg

import (
	"gerund/api"
	"gerund/lex"
)

// errorName is a terminal where it stands in a rule, though nobody declared it.
const errorName = "error"

// A builder is a grammar that is built, and what is known of the source so far.
type builder struct {
	api.Grammar
	symbols map[string]int  // of all names
	tokens  map[string]bool // what a TokToken had
	levels  int             // how many declarations gave a level
	start   api.Ref         // that was declared; without a text: none was
}

// declare is the first step: declarations.
func (b *builder) declare(s api.Source) (complex128, api.Errno) {
	for _, d := range s.Decls {
		if at, e := b.names(d); e != api.OK {
			return at, e
		}
	}
	return 0, api.OK
}

// names are a declaration's.
func (b *builder) names(d api.Decl) (complex128, api.Errno) {
	switch d.Kind {
	case api.TokLeft, api.TokRight, api.TokNon:
		b.levels++
	case api.TokToken, api.TokStart:
	default:
		return firstOf(d.Names).At, api.ErrForm
	}
	for _, r := range d.Names {
		if e := b.name(d.Kind, r); e != api.OK {
			return r.At, e
		}
	}
	return 0, api.OK
}

// firstOf is the first reference, or none.
func firstOf(l []api.Ref) api.Ref {
	if len(l) == 0 {
		return api.Ref{}
	}
	return l[0]
}

// name is one of a declaration of a kind.
func (b *builder) name(kind int, r api.Ref) api.Errno {
	switch {
	case !isSpelt(r.Text):
		return api.ErrForm
	case kind == api.TokStart:
		return b.startName(r)
	case kind == api.TokToken:
		return b.tokenName(r.Text)
	}
	return b.levelName(r.Text, assocOf(kind))
}

// startName is one of a TokStart.
func (b *builder) startName(r api.Ref) api.Errno {
	if !lex.Name(r.Text) {
		return api.ErrForm
	}
	if b.start.Text != "" {
		return api.ErrTwice
	}
	b.start = r
	return api.OK
}

// tokenName is one of a TokToken.
func (b *builder) tokenName(text string) api.Errno {
	if b.tokens[text] {
		return api.ErrTwice
	}
	b.tokens[text] = true
	_, e := b.term(text)
	return e
}

// levelName is one of the last declaration that gives a level.
func (b *builder) levelName(text string, assoc int) api.Errno {
	n, e := b.term(text)
	if e != api.OK {
		return e
	}
	t := &b.Terms[n]
	if t.Level > 0 {
		return api.ErrTwice
	}
	t.Level, t.Assoc = b.levels, assoc
	return api.OK
}

// assocOf is how terminals associate of a declaration of a kind.
func assocOf(kind int) int {
	switch kind {
	case api.TokLeft:
		return api.AssocLeft
	case api.TokRight:
		return api.AssocRight
	}
	return api.AssocNon
}

// term is the terminal of a text that is no nonterminal's: the next one, if it is none yet.
func (b *builder) term(text string) (int, api.Errno) {
	if n, known := b.symbols[text]; known {
		return n, api.OK
	}
	n := len(b.Terms)
	if n == api.MaxTerms {
		return 0, api.ErrMany
	}
	b.symbols[text] = n
	b.Terms = append(b.Terms, api.Term{Name: text})
	return n, api.OK
}

// lead is the second step: the rules' Lefts, which all are known ahead of what the rules have.
func (b *builder) lead(s api.Source) (complex128, api.Errno) {
	for _, p := range s.Prods {
		if e := b.left(p.Left.Text); e != api.OK {
			return p.Left.At, e
		}
	}
	return 0, api.OK
}

// left is a rule's Left.
func (b *builder) left(text string) api.Errno {
	if !lex.Name(text) {
		return api.ErrForm
	}
	if sym, known := b.symbols[text]; known {
		if isTerm(sym) {
			return api.ErrTwice
		}
		return api.OK
	}
	if len(b.Nons) == api.MaxNons {
		return api.ErrMany
	}
	b.symbols[text] = non(len(b.Nons))
	b.Nons = append(b.Nons, text)
	return api.OK
}

// rule is the third step: rules.
func (b *builder) rule(s api.Source) (complex128, api.Errno) {
	for i, p := range s.Prods {
		if i == api.MaxRules {
			return p.Left.At, api.ErrMany
		}
		if at, e := b.prod(p); e != api.OK {
			return at, e
		}
	}
	return 0, api.OK
}

// prod is a rule.
func (b *builder) prod(p api.Prod) (complex128, api.Errno) {
	rule := api.Rule{Left: non(b.symbols[p.Left.Text]), Prec: -1}
	for i, r := range p.Right {
		sym, e := b.right(i, r.Text)
		if e != api.OK {
			return r.At, e
		}
		rule.Right = append(rule.Right, sym)
		if isTerm(sym) {
			rule.Prec = sym
		}
	}
	if p.Prec.Text != "" {
		sym, e := b.prec(p.Prec.Text)
		if e != api.OK {
			return p.Prec.At, e
		}
		rule.Prec = sym
	}
	b.Rules = append(b.Rules, rule)
	return 0, api.OK
}

// right is the symbol of a rule's i-th text, from 0 on.
func (b *builder) right(i int, text string) (int, api.Errno) {
	if i == api.MaxRight && isSpelt(text) {
		return 0, api.ErrMany
	}
	return b.symbol(text)
}

// prec is the terminal of a rule's Prec.
func (b *builder) prec(text string) (int, api.Errno) {
	sym, e := b.symbol(text)
	if e == api.OK && !isTerm(sym) {
		return 0, api.ErrName
	}
	return sym, e
}

// symbol is that of a text in a rule.
func (b *builder) symbol(text string) (int, api.Errno) {
	if sym, known := b.symbols[text]; known {
		return sym, api.OK
	}
	switch {
	case lex.Literal(text), text == errorName:
		return b.term(text)
	case lex.Name(text):
		return 0, api.ErrName
	}
	return 0, api.ErrForm
}

// begin is the fourth step: the start.
func (b *builder) begin(s api.Source) (complex128, api.Errno) {
	start := b.start
	if start.Text == "" && len(s.Prods) > 0 {
		start = s.Prods[0].Left
	}
	sym, known := b.symbols[start.Text]
	if !known || isTerm(sym) {
		return start.At, api.ErrStart
	}
	b.Start = non(sym)
	return 0, api.OK
}
