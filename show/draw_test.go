package show_test

import (
	"fmt"
	"reflect"
	"slices"
	"strings"

	"gerund/api"
)

// drawer is numbers that look like drawn ones.
type drawer uint64

// below is one of the numbers below n.
func (d *drawer) below(n int) int {
	*d = *d*6364136223846793005 + 1442695040888963407
	return int(*d>>33) % n
}

// of is one of some texts.
func (d *drawer) of(l ...string) string {
	return l[d.below(len(l))]
}

// order is the numbers below n, in any order.
func (d *drawer) order(n int) []int {
	l := make([]int, n)
	for i := range l {
		j := d.below(i + 1)
		l[i], l[j] = l[j], i
	}
	return l
}

// literals are all that there are.
func literals() []string {
	l := []string{`'\n'`, `'\t'`, `'\\'`, `'\''`}
	for c := ' '; c <= '~'; c++ {
		if c != '\'' && c != '\\' {
			l = append(l, "'"+string(c)+"'")
		}
	}
	return l
}

// name is one of at most so many bytes.
func (d *drawer) name(most int) string {
	const heads, tails = "abcxyzABCXYZ_", "abcxyzABCXYZ_0129..."
	b := []byte{heads[d.below(len(heads))]}
	for range most - 1 - d.below(min(most, 8)) {
		b = append(b, tails[d.below(len(tails))])
	}
	return string(b)
}

// names are so many, no two alike, nor like one of others; literals among them, if there may be any.
func (d *drawer) names(n, most int, mayBeLiteral bool, others []string) []string {
	var l []string
	for len(l) < n {
		s := d.name(most)
		switch d.below(8) {
		case 0:
			s = "error"
		case 1, 2, 3:
			if mayBeLiteral {
				s = d.of(literals()...)
			}
		}
		if !slices.Contains(l, s) && !slices.Contains(others, s) {
			l = append(l, s)
		}
	}
	return l
}

// grammar is one that may be: so many terminals, nonterminals, and rules, no fewer than nonterminals, with names of at most so many bytes.
func (d *drawer) grammar(terms, nons, rules, most int) api.Grammar {
	g := api.Grammar{Terms: make([]api.Term, terms), Nons: d.names(nons, most, false, nil), Start: d.below(nons)}
	for i, s := range d.names(terms, most, true, g.Nons) {
		g.Terms[i].Name = s
	}
	d.levels(g.Terms)
	came := 0
	for left := rules; left > 0; left-- {
		r := api.Rule{Left: d.below(min(came+1, nons))}
		if left == nons-came {
			r.Left = came
		}
		came = max(came, r.Left+1)
		d.right(&r, terms, nons)
		g.Rules = append(g.Rules, r)
	}
	return g
}

// levels gives some terminals levels, from 1 on, none of which is left out.
func (d *drawer) levels(l []api.Term) {
	greatest := d.below(len(l) + 1)
	ways := make([]int, greatest+1)
	for i := range greatest {
		ways[i+1] = 1 + d.below(3)
	}
	for i, at := range d.order(len(l)) {
		level := i + 1
		if level > greatest {
			level = d.below(greatest + 1)
		}
		l[at].Level, l[at].Assoc = level, ways[level]
	}
}

// right draws a rule's symbols, and its Prec.
func (d *drawer) right(r *api.Rule, terms, nons int) {
	for range d.below(7) {
		r.Right = append(r.Right, d.below(terms+nons)-nons)
	}
	r.Prec = lastOf(r.Right)
	if terms > 0 && d.below(3) == 0 {
		r.Prec = d.below(terms)
	}
}

// some is a grammar of any kind: small ones, such as have much, and such as have too much for a text.
func (d *drawer) some() api.Grammar {
	switch d.below(4) {
	case 0:
		return d.grammar(d.below(3), 1, 1+d.below(3), 2)
	case 1:
		nons := 1 + d.below(16)
		g := d.grammar(d.below(25), nons, max(nons, 30+d.below(11)), 10+d.below(11))
		for i, r := range g.Rules[:d.below(len(g.Rules))] {
			g.Rules[i].Right = slices.Insert(r.Right, 0, slices.Repeat([]int{-1 - d.below(nons)}, 6-len(r.Right))...)
		}
		return g
	}
	nons := 1 + d.below(6)
	return d.grammar(d.below(25), nons, nons+d.below(12), 1+d.below(9))
}

// written is a text of g's rules, in which its terminals come in another order, and much stands in other ways.
func (d *drawer) written(g api.Grammar) string {
	gap := func() string { return d.of(" ", "  ", "\n", "\t", "\r\n", " // a\n", "/**/", "{ }", "<a>") }
	var b strings.Builder
	all := func(word string, names []string) {
		if len(names) > 0 {
			b.WriteString(word + gap() + strings.Join(names, gap()) + gap())
		}
	}
	if d.below(2) == 0 {
		all("%start", g.Nons[g.Start:g.Start+1])
	}
	var tokens []string
	for _, i := range d.order(len(g.Terms)) {
		if t := g.Terms[i]; t.Level == 0 && t.Name[0] != '\'' && t.Name != "error" || d.below(2) == 0 {
			tokens = append(tokens, t.Name)
		}
	}
	cut := d.below(len(tokens) + 1)
	all("%token", tokens[:cut])
	for level := 1; level <= len(g.Terms); level++ {
		on := namesOn(g.Terms, level)
		slices.Reverse(on)
		all(words(g.Terms, level), on)
	}
	all("%token", tokens[cut:])
	b.WriteString("%%" + gap())
	for i, r := range g.Rules {
		if i > 0 && r.Left == g.Rules[i-1].Left && d.below(3) > 0 {
			b.WriteString("|")
		} else {
			b.WriteString(";"[:min(i, 1)] + gap() + g.Nons[r.Left] + ":")
		}
		for _, sym := range r.Right {
			b.WriteString(gap() + nameOf(g, sym))
		}
		if r.Prec >= 0 && (r.Prec != lastOf(r.Right) || d.below(4) == 0) {
			b.WriteString(" %prec " + g.Terms[r.Prec].Name)
		}
	}
	return b.String() + ";" + d.of("", "\n", "%%", "%% ' {")
}

// lastOf is the last terminal of symbols, or -1.
func lastOf(right []int) int {
	for _, sym := range slices.Backward(right) {
		if sym >= 0 {
			return sym
		}
	}
	return -1
}

// nameOf is a symbol's.
func nameOf(g api.Grammar, sym int) string {
	if sym < 0 {
		return g.Nons[-1-sym]
	}
	return g.Terms[sym].Name
}

// namesOn are those of the terminals on a level.
func namesOn(l []api.Term, level int) []string {
	var names []string
	for _, t := range l {
		if t.Level == level {
			names = append(names, t.Name)
		}
	}
	return names
}

// words are how a level's declaration begins: none of a level on which there is none.
func words(l []api.Term, level int) string {
	for _, t := range l {
		if t.Level == level {
			return map[int]string{1: "%left", 2: "%right", 3: "%nonassoc"}[t.Assoc]
		}
	}
	return ""
}

// modelOf is the text of a grammar that may be, by other means: it is written all at once, level by level, whether there are any or not.
func modelOf(g api.Grammar) string {
	text := ""
	for _, t := range g.Terms {
		text += fmt.Sprintf("%%token %s\n", t.Name)
	}
	for level := 1; level <= 24; level++ {
		if on := namesOn(g.Terms, level); len(on) > 0 {
			text += fmt.Sprintf("%s %s\n", words(g.Terms, level), strings.Join(on, " "))
		}
	}
	text += fmt.Sprintf("%%start %s\n%%%%\n", g.Nons[g.Start])
	for _, r := range g.Rules {
		text += g.Nons[r.Left] + " : "
		for _, sym := range r.Right {
			text += nameOf(g, sym) + " "
		}
		if r.Prec != lastOf(r.Right) {
			text += "%prec " + g.Terms[r.Prec].Name + " "
		}
		text += ";\n"
	}
	return text
}

// copied is the same grammar, that shares nothing with g; what holds nothing is nil.
func copied(g api.Grammar) api.Grammar {
	c := api.Grammar{Terms: append([]api.Term(nil), g.Terms...), Nons: append([]string(nil), g.Nons...), Start: g.Start}
	for _, r := range g.Rules {
		c.Rules = append(c.Rules, api.Rule{Left: r.Left, Right: append([]int(nil), r.Right...), Prec: r.Prec})
	}
	return c
}

// same: are they the same, field by field?
func same(a, b api.Grammar) bool {
	return reflect.DeepEqual(copied(a), copied(b))
}
