package cfg_test

import (
	"fmt"
	"math"
	"reflect"
	"slices"
	"strings"

	"gerund/api"
)

// drawer is numbers that look like drawn ones.
type drawer uint64

// below is one of the numbers below n.
func (d *drawer) below(n int) int {
	*d = *d*6364136223846793005 + 1442695040888963407
	return int(*d>>33) % n
}

// of is one of some texts.
func (d *drawer) of(l ...string) string {
	return l[d.below(len(l))]
}

// long is a name of so many bytes.
func long(n int) string {
	return strings.Repeat("x", n)
}

// numbered are texts with a number behind each, from 0 on.
func numbered(text string, n int) []string {
	var l []string
	for i := range n {
		l = append(l, fmt.Sprint(text, i))
	}
	return l
}

// refs are references of texts, without places.
func refs(l ...string) []api.Ref {
	var r []api.Ref
	for _, s := range l {
		r = append(r, api.Ref{Text: s})
	}
	return r
}

// all goes through the references of a source, each with what it may be changed by.
func all(s *api.Source, do func(*api.Ref)) {
	for i := range s.Decls {
		for j := range s.Decls[i].Names {
			do(&s.Decls[i].Names[j])
		}
	}
	for i := range s.Prods {
		do(&s.Prods[i].Left)
		for j := range s.Prods[i].Right {
			do(&s.Prods[i].Right[j])
		}
		do(&s.Prods[i].Prec)
	}
}

// placed is s, each of its references at a place of its own.
func placed(s api.Source) api.Source {
	n := 0
	all(&s, func(r *api.Ref) {
		n++
		r.At = complex(float64(n), float64(-n))
	})
	return s
}

// literals are those that drawn sources have.
func literals() []string {
	return []string{"'a'", `'\n'`, `'\''`, `'"'`, "';'"}
}

// source is one that is drawn, most often of a grammar: so many tokens, nonterminals and rules at least.
func (d *drawer) source(tokens, nons, rules int) api.Source {
	var s api.Source
	named := numbered("T", tokens)
	if tokens > 0 {
		s.Decls = append(s.Decls, api.Decl{Kind: api.TokToken, Names: refs(named...)})
	}
	left := append(numbered("L", d.below(4)), append(literals()[:d.below(3)], named[:min(tokens, d.below(3))]...)...)
	for len(left) > 0 {
		n := 1 + d.below(len(left))
		s.Decls = append(s.Decls, api.Decl{Kind: api.TokLeft + d.below(3), Names: refs(left[:n]...)})
		named, left = append(named, left[:n]...), left[n:]
	}
	heads := numbered("e", nons)
	if d.below(2) == 0 {
		s.Decls = slices.Insert(s.Decls, d.below(len(s.Decls)+1), api.Decl{Kind: api.TokStart, Names: refs(d.of(heads...))})
	}
	named = append(append(named, literals()[:d.below(4)]...), "error")
	for range max(rules, nons) {
		s.Prods = append(s.Prods, d.rule(d.of(heads...), heads, named))
	}
	for i, h := range heads {
		// Each nonterminal leads a rule.
		s.Prods[len(s.Prods)-nons+i].Left.Text = h
	}
	return placed(s)
}

// rule is one that is drawn.
func (d *drawer) rule(left string, heads, named []string) api.Prod {
	p := api.Prod{Left: api.Ref{Text: left}}
	for range d.below(4) + d.below(4) {
		p.Right = append(p.Right, refs(d.of(d.of(heads...), d.of(named...)))...)
	}
	if d.below(3) == 0 {
		p.Prec.Text = d.of(named...)
	}
	return p
}

// changed is s, with something of it changed.
func (d *drawer) changed(s api.Source) api.Source {
	s = copiedSource(s)
	n := 0
	all(&s, func(*api.Ref) { n++ })
	at, text := d.below(max(n, 1)), d.of("", "1", "'", "''", "'ab'", "a b", "e0", "e1", "e9", "T0", "T1", "L0", "q", "'a'", "'z'", "error", long(20), long(21), "_", ".a", "'é'")
	switch i, j := d.below(len(s.Decls)+1), d.below(len(s.Prods)+1); d.below(7) {
	case 0, 1, 2, 3:
		all(&s, func(r *api.Ref) {
			if at--; at == -1 {
				r.Text = text
			}
		})
	case 4:
		s.Decls = slices.Insert(s.Decls, i, api.Decl{Kind: d.below(14), Names: refs(text, d.of("T0", "q", "''"))[:d.below(3)]})
	case 5:
		s.Prods = slices.Insert(s.Prods, j, api.Prod{Left: api.Ref{Text: text}})
	case 6:
		if j < len(s.Prods) {
			s.Prods[j].Right = append(s.Prods[j].Right, refs(slices.Repeat([]string{text}, d.below(7))...)...)
		}
	}
	return placed(s)
}

// written is a source's text.
func (d *drawer) written(s api.Source) string {
	gap := func() string { return d.of(" ", "\n", "\t", " // a\n", "/**/", "{ }", "<a>") }
	words := map[int]string{api.TokToken: "%token", api.TokLeft: "%left", api.TokRight: "%right", api.TokNon: "%nonassoc", api.TokStart: "%start"}
	var b strings.Builder
	for _, x := range s.Decls {
		b.WriteString(words[x.Kind])
		for _, r := range x.Names {
			b.WriteString(gap() + r.Text)
		}
		b.WriteString(gap())
	}
	b.WriteString("%%")
	for i, p := range s.Prods {
		if i > 0 && p.Left.Text == s.Prods[i-1].Left.Text {
			b.WriteString("|")
		} else {
			b.WriteString(";"[:min(i, 1)] + gap() + p.Left.Text + ":")
		}
		for _, r := range p.Right {
			b.WriteString(r.Text + gap())
		}
		if p.Prec.Text != "" {
			b.WriteString("%prec " + p.Prec.Text)
		}
	}
	return b.String() + ";" + d.of("", "%%", "%% ' {")
}

// copiedSource is the same one, that shares nothing with s.
func copiedSource(s api.Source) api.Source {
	var c api.Source
	for _, d := range s.Decls {
		c.Decls = append(c.Decls, api.Decl{Kind: d.Kind, Names: append([]api.Ref(nil), d.Names...)})
	}
	for _, p := range s.Prods {
		c.Prods = append(c.Prods, api.Prod{Left: p.Left, Right: append([]api.Ref(nil), p.Right...), Prec: p.Prec})
	}
	return c
}

// copied is the same grammar, that shares nothing with g; what holds nothing is nil.
func copied(g api.Grammar) api.Grammar {
	c := api.Grammar{Terms: append([]api.Term(nil), g.Terms...), Nons: append([]string(nil), g.Nons...), Start: g.Start}
	for _, r := range g.Rules {
		c.Rules = append(c.Rules, api.Rule{Left: r.Left, Right: append([]int(nil), r.Right...), Prec: r.Prec})
	}
	return c
}

// same: are they the same, field by field?
func same(a, b api.Grammar) bool {
	return reflect.DeepEqual(copied(a), copied(b))
}

// otherInts are numbers unlike n: beside it, at the ends of what there is, and a few more.
func otherInts(n int, more ...int) []int {
	l := append(more, n-1, n+1, -n, -1-n, 0, -1, math.MinInt, math.MaxInt, n+1<<32)
	return slices.DeleteFunc(l, func(m int) bool { return m == n })
}

// otherTexts are names and literals unlike s, and such as are neither, and a few more.
func otherTexts(s string, more ...string) []string {
	l := append(more, s+"x", "", "'x'", "x.y", "''", `'\'`, "1", long(20), long(21), "'\n'", " ", "é")
	return slices.DeleteFunc(l, func(t string) bool { return t == s })
}

// adder puts behind l what becomes of g by a change, if it is unlike g.
func adder(g api.Grammar, l *[]api.Grammar) func(func(*api.Grammar)) {
	return func(change func(*api.Grammar)) {
		c := copied(g)
		change(&c)
		if !same(c, g) {
			*l = append(*l, c)
		}
	}
}

// others are grammars that are unlike g in one thing.
func others(g api.Grammar) []api.Grammar {
	var l []api.Grammar
	add := adder(g, &l)
	var names []string
	for _, t := range g.Terms {
		names = append(names, t.Name)
	}
	names = append(names, g.Nons...)
	for i, x := range g.Terms {
		for _, s := range otherTexts(x.Name, slices.Clone(names)...) {
			add(func(c *api.Grammar) { c.Terms[i].Name = s })
		}
		for _, n := range otherInts(x.Level, 1, 2, 3) {
			add(func(c *api.Grammar) { c.Terms[i].Level = n })
		}
		for _, n := range otherInts(x.Assoc, 1, 2, 3, 4) {
			add(func(c *api.Grammar) { c.Terms[i].Assoc = n })
		}
		add(func(c *api.Grammar) { c.Terms[i], c.Terms[0] = c.Terms[0], c.Terms[i] })
		add(func(c *api.Grammar) { c.Terms = slices.Delete(c.Terms, i, i+1) })
	}
	for i, x := range g.Nons {
		for _, s := range otherTexts(x, slices.Clone(names)...) {
			add(func(c *api.Grammar) { c.Nons[i] = s })
		}
		add(func(c *api.Grammar) { c.Nons[i], c.Nons[0] = c.Nons[0], c.Nons[i] })
		add(func(c *api.Grammar) { c.Nons = slices.Delete(c.Nons, i, i+1) })
	}
	for _, t := range []api.Term{{}, {Name: "new"}, {Name: "new", Level: 1, Assoc: 1}, {Name: "'n'", Level: 2, Assoc: 3}} {
		add(func(c *api.Grammar) { c.Terms = append(c.Terms, t) })
	}
	add(func(c *api.Grammar) { c.Terms = nil })
	add(func(c *api.Grammar) { c.Nons = append(c.Nons, "new") })
	add(func(c *api.Grammar) { c.Nons = nil })
	for _, n := range otherInts(g.Start, len(g.Nons), len(g.Nons)-1) {
		add(func(c *api.Grammar) { c.Start = n })
	}
	return append(l, otherRules(g)...)
}

// otherRules are grammars that are unlike g in one thing of the rules.
func otherRules(g api.Grammar) []api.Grammar {
	var l []api.Grammar
	add := adder(g, &l)
	ends := []int{len(g.Terms), len(g.Terms) - 1, len(g.Nons), len(g.Nons) - 1, -len(g.Nons), -1 - len(g.Nons)}
	for i, x := range g.Rules {
		for _, n := range otherInts(x.Left, slices.Clone(ends)...) {
			add(func(c *api.Grammar) { c.Rules[i].Left = n })
		}
		for _, n := range otherInts(x.Prec, slices.Clone(ends)...) {
			add(func(c *api.Grammar) { c.Rules[i].Prec = n })
		}
		for j, sym := range x.Right {
			for _, n := range otherInts(sym, slices.Clone(ends)...) {
				add(func(c *api.Grammar) { c.Rules[i].Right[j] = n })
			}
			add(func(c *api.Grammar) { c.Rules[i].Right = slices.Delete(c.Rules[i].Right, j, j+1) })
		}
		for n := range 7 {
			add(func(c *api.Grammar) { c.Rules[i].Right = append(c.Rules[i].Right, slices.Repeat([]int{-1}, n+1)...) })
			add(func(c *api.Grammar) { c.Rules[i].Right = append(c.Rules[i].Right, slices.Repeat([]int{0}, n+1)...) })
		}
		add(func(c *api.Grammar) { c.Rules[i], c.Rules[0] = c.Rules[0], c.Rules[i] })
		add(func(c *api.Grammar) { c.Rules = slices.Delete(c.Rules, i, i+1) })
	}
	for _, r := range []api.Rule{{}, {Prec: -1}, {Left: len(g.Nons), Prec: -1}, {Left: len(g.Nons) - 1, Right: []int{-1}, Prec: -1}} {
		add(func(c *api.Grammar) { c.Rules = append(c.Rules, r) })
		add(func(c *api.Grammar) { c.Rules = append([]api.Rule{r}, c.Rules...) })
	}
	add(func(c *api.Grammar) { c.Rules = nil })
	return l
}
