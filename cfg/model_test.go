package cfg_test

import (
	"regexp"
	"slices"

	"gerund/api"
)

// A model builds grammars by other means: all references stand in one list, in the order in which they are asked for, and what is known at one of them is looked for among those ahead of it.

// What a reference is asked for as.
const (
	asDecl  = "a declaration's"
	asOther = "another declaration's"
	asLeft  = "a Left"
	asMore  = "one rule too many"
	asRight = "of Right"
	asPrec  = "Prec"
	asStart = "the start"
)

// An ask is a reference, and what it is asked for as.
type ask struct {
	as    string
	ref   api.Ref
	kind  int // of the declaration
	level int // that the declaration gives
	rule  int
	pos   int // in Right
}

var (
	namePattern    = regexp.MustCompile(`\A[A-Za-z_][A-Za-z0-9_.]{0,19}\z`)
	literalPattern = regexp.MustCompile(`\A'(?:[ -&(-\[\]-~]|\\[nt\\'])'\z`)
)

// isName, isLiteral, isEither: is a text one?
func isName(s string) bool    { return namePattern.MatchString(s) }
func isLiteral(s string) bool { return literalPattern.MatchString(s) }
func isEither(s string) bool  { return isName(s) || isLiteral(s) }

// givesLevel: does a kind of declarations?
func givesLevel(kind int) bool {
	return kind == api.TokLeft || kind == api.TokRight || kind == api.TokNon
}

// asks are all of a source.
func asks(s api.Source) []ask {
	var l []ask
	level, start := 0, api.Ref{}
	for _, d := range s.Decls {
		if givesLevel(d.Kind) {
			level++
		}
		if !givesLevel(d.Kind) && d.Kind != api.TokToken && d.Kind != api.TokStart {
			l = append(l, ask{as: asOther, ref: append(slices.Clone(d.Names), api.Ref{})[0]})
		}
		for _, r := range d.Names {
			l = append(l, ask{as: asDecl, ref: r, kind: d.Kind, level: level})
			if d.Kind == api.TokStart {
				start = r
			}
		}
	}
	for i, p := range s.Prods {
		l = append(l, ask{as: asLeft, ref: p.Left, rule: i})
	}
	for i, p := range s.Prods {
		l = append(l, asksOfRule(i, p)...)
	}
	if start == (api.Ref{}) && len(s.Prods) > 0 {
		start = s.Prods[0].Left
	}
	return append(l, ask{as: asStart, ref: start})
}

// asksOfRule are those of the i-th rule, but for its Left.
func asksOfRule(i int, p api.Prod) []ask {
	var l []ask
	if i >= 40 {
		l = append(l, ask{as: asMore, ref: p.Left})
	}
	for j, r := range p.Right {
		l = append(l, ask{as: asRight, ref: r, rule: i, pos: j})
	}
	if p.Prec.Text != "" {
		l = append(l, ask{as: asPrec, ref: p.Prec, rule: i})
	}
	return l
}

// nons are the nonterminals that are known behind some references.
func nons(l []ask) []string {
	var names []string
	for _, x := range l {
		if x.as == asLeft && !slices.Contains(names, x.ref.Text) {
			names = append(names, x.ref.Text)
		}
	}
	return names
}

// terms are the terminals that are known behind some references, none of which is wrong.
func terms(l []ask) []string {
	var names []string
	others := nons(l)
	for _, x := range l {
		declared := x.as == asDecl && x.kind != api.TokStart
		used := (x.as == asRight || x.as == asPrec) && !slices.Contains(others, x.ref.Text)
		if (declared || used) && !slices.Contains(names, x.ref.Text) {
			names = append(names, x.ref.Text)
		}
	}
	return names
}

// why is what is wrong with a reference, behind others.
func why(l []ask, x ask) api.Errno {
	switch x.as {
	case asDecl:
		return whyDecl(l, x)
	case asLeft:
		return whyLeft(l, x)
	case asRight, asPrec:
		return whyUsed(l, x)
	case asOther:
		return api.ErrForm
	case asMore:
		return api.ErrMany
	}
	if !slices.Contains(nons(l), x.ref.Text) {
		return api.ErrStart
	}
	return api.OK
}

// whyDecl is that of one of a declaration.
func whyDecl(l []ask, x ask) api.Errno {
	start := x.kind == api.TokStart
	if !isEither(x.ref.Text) || start && isLiteral(x.ref.Text) {
		return api.ErrForm
	}
	for _, y := range l {
		if start && y.kind == api.TokStart {
			return api.ErrTwice
		}
		if !start && y.ref.Text == x.ref.Text && (x.kind == y.kind || givesLevel(x.kind) && givesLevel(y.kind)) {
			return api.ErrTwice
		}
	}
	if known := terms(l); !start && !slices.Contains(known, x.ref.Text) && len(known) == 24 {
		return api.ErrMany
	}
	return api.OK
}

// whyLeft is that of a Left.
func whyLeft(l []ask, x ask) api.Errno {
	known := nons(l)
	switch {
	case !isName(x.ref.Text):
		return api.ErrForm
	case slices.Contains(terms(l), x.ref.Text):
		return api.ErrTwice
	case !slices.Contains(known, x.ref.Text) && len(known) == 16:
		return api.ErrMany
	}
	return api.OK
}

// whyUsed is that of one of Right, or of Prec.
func whyUsed(l []ask, x ask) api.Errno {
	known := terms(l)
	switch {
	case !isEither(x.ref.Text):
		return api.ErrForm
	case x.as == asRight && x.pos == 6:
		return api.ErrMany
	case x.as == asRight && slices.Contains(nons(l), x.ref.Text), slices.Contains(known, x.ref.Text):
		return api.OK
	case x.as == asPrec && slices.Contains(nons(l), x.ref.Text), isName(x.ref.Text) && x.ref.Text != "error":
		return api.ErrName
	case len(known) == 24:
		return api.ErrMany
	}
	return api.OK
}

// built is what a source is to be answered, and as what the reference that is wrong is asked for.
func built(s api.Source) (api.Grammar, complex128, api.Errno, string) {
	l := asks(s)
	for i, x := range l {
		if e := why(l[:i], x); e != api.OK {
			return api.Grammar{}, x.ref.At, e, x.as
		}
	}
	g := api.Grammar{Nons: nons(l), Start: slices.Index(nons(l), l[len(l)-1].ref.Text)}
	ways := map[int]int{api.TokLeft: 1, api.TokRight: 2, api.TokNon: 3}
	for _, name := range terms(l) {
		t := api.Term{Name: name}
		for _, x := range l {
			if givesLevel(x.kind) && x.ref.Text == name {
				t.Level, t.Assoc = x.level, ways[x.kind]
			}
		}
		g.Terms = append(g.Terms, t)
	}
	for i, p := range s.Prods {
		g.Rules = append(g.Rules, ruleOf(g, l, i, p))
	}
	return g, 0, api.OK, ""
}

// ruleOf is the i-th rule's, by names that are known.
func ruleOf(g api.Grammar, l []ask, i int, p api.Prod) api.Rule {
	r := api.Rule{Left: slices.Index(g.Nons, p.Left.Text), Prec: -1}
	for _, x := range l {
		if x.rule != i || x.as != asRight && x.as != asPrec {
			continue
		}
		term := slices.IndexFunc(g.Terms, func(t api.Term) bool { return t.Name == x.ref.Text })
		if term >= 0 {
			r.Prec = term
		}
		if x.as == asRight && term >= 0 {
			r.Right = append(r.Right, term)
		} else if x.as == asRight {
			r.Right = append(r.Right, -1-slices.Index(g.Nons, x.ref.Text))
		}
	}
	return r
}

// mayBe: may a grammar be? Each line is the chapter's.
func mayBe(g api.Grammar) bool {
	var names []string
	for _, t := range g.Terms {
		names = append(names, t.Name)
	}
	if slices.ContainsFunc(names, func(s string) bool { return !isEither(s) }) || slices.ContainsFunc(g.Nons, func(s string) bool { return !isName(s) }) {
		return false
	}
	names = append(names, g.Nons...)
	slices.Sort(names)
	return len(slices.Compact(slices.Clone(names))) == len(names) &&
		len(g.Terms) <= 24 && len(g.Nons) >= 1 && len(g.Nons) <= 16 && len(g.Rules) >= 1 && len(g.Rules) <= 40 &&
		levelsMayBe(g.Terms) && rulesMayBe(g) && 0 <= g.Start && g.Start < len(g.Nons)
}

// levelsMayBe: may the levels be?
func levelsMayBe(l []api.Term) bool {
	for _, t := range l {
		none, some := t.Level == 0 && t.Assoc == 0, t.Level > 0 && t.Assoc >= 1 && t.Assoc <= 3
		if !none && !some {
			return false
		}
		if t.Level > 1 && !slices.ContainsFunc(l, func(u api.Term) bool { return u.Level == t.Level-1 }) {
			return false
		}
		if slices.ContainsFunc(l, func(u api.Term) bool { return u.Level == t.Level && u.Assoc != t.Assoc }) {
			return false
		}
	}
	return true
}

// rulesMayBe: may the rules be?
func rulesMayBe(g api.Grammar) bool {
	greatest := -1
	for n := range g.Nons {
		if !slices.ContainsFunc(g.Rules, func(r api.Rule) bool { return r.Left == n }) {
			return false
		}
	}
	for _, r := range g.Rules {
		if r.Left < 0 || r.Left > greatest+1 || r.Left > len(g.Nons)-1 || len(r.Right) > 6 {
			return false
		}
		greatest = max(greatest, r.Left)
		some := false
		for _, sym := range r.Right {
			if sym > len(g.Terms)-1 || sym < -len(g.Nons) {
				return false
			}
			some = some || sym >= 0
		}
		if r.Prec < -1 || r.Prec > len(g.Terms)-1 || r.Prec == -1 && some {
			return false
		}
	}
	return true
}
