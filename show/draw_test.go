package show_test

import (
	"fmt"
	"reflect"
	"slices"
	"strings"

	"gerund/api"
	"gerund/specimen"
)

// drawer draws grammars of any names, and their texts.
type drawer struct{ specimen.Drawer }

// of is one of some texts.
func (d *drawer) of(l ...string) string {
	return l[d.Below(len(l))]
}

// literals are all that there are.
func literals() []string {
	l := []string{`'\n'`, `'\t'`, `'\\'`, `'\''`}
	for c := ' '; c <= '~'; c++ {
		if c != '\'' && c != '\\' {
			l = append(l, "'"+string(c)+"'")
		}
	}
	return l
}

// name is one of at most so many bytes.
func (d *drawer) name(most int) string {
	const heads, tails = "abcxyzABCXYZ_", "abcxyzABCXYZ_0129..."
	b := []byte{heads[d.Below(len(heads))]}
	for range most - 1 - d.Below(min(most, 8)) {
		b = append(b, tails[d.Below(len(tails))])
	}
	return string(b)
}

// names are so many, no two alike, nor like one of others; literals among them, if there may be any.
func (d *drawer) names(n, most int, mayBeLiteral bool, others []string) []string {
	var l []string
	for len(l) < n {
		s := d.name(most)
		switch d.Below(8) {
		case 0:
			s = "error"
		case 1, 2, 3:
			if mayBeLiteral {
				s = d.of(literals()...)
			}
		}
		if !slices.Contains(l, s) && !slices.Contains(others, s) {
			l = append(l, s)
		}
	}
	return l
}

// grammar is one that may be: so many terminals, nonterminals, and rules, no fewer than nonterminals, with names of at most so many bytes.
func (d *drawer) grammar(terms, nons, rules, most int) api.Grammar {
	g := api.Grammar{Terms: make([]api.Term, terms), Nons: d.names(nons, most, false, nil), Start: d.Below(nons)}
	for i, s := range d.names(terms, most, true, g.Nons) {
		g.Terms[i].Name = s
	}
	g.Terms = d.Levelled(g.Terms)
	came := 0
	for left := rules; left > 0; left-- {
		r := api.Rule{Left: d.Below(min(came+1, nons))}
		if left == nons-came {
			r.Left = came
		}
		came = max(came, r.Left+1)
		d.right(&r, terms, nons)
		g.Rules = append(g.Rules, r)
	}
	return g
}

// right draws a rule's symbols, and its Prec.
func (d *drawer) right(r *api.Rule, terms, nons int) {
	for range d.Below(7) {
		r.Right = append(r.Right, d.Below(terms+nons)-nons)
	}
	r.Prec = specimen.LastOf(r.Right)
	if terms > 0 && d.Below(3) == 0 {
		r.Prec = d.Below(terms)
	}
}

// some is a grammar of any kind: small ones, such as have much, and such as have too much for a text.
func (d *drawer) some() api.Grammar {
	switch d.Below(4) {
	case 0:
		return d.grammar(d.Below(3), 1, 1+d.Below(3), 2)
	case 1:
		nons := 1 + d.Below(16)
		g := d.grammar(d.Below(25), nons, max(nons, 30+d.Below(11)), 10+d.Below(11))
		for i, r := range g.Rules[:d.Below(len(g.Rules))] {
			g.Rules[i].Right = slices.Insert(r.Right, 0, slices.Repeat([]int{-1 - d.Below(nons)}, 6-len(r.Right))...)
		}
		return g
	}
	nons := 1 + d.Below(6)
	return d.grammar(d.Below(25), nons, nons+d.Below(12), 1+d.Below(9))
}

// written is a text of g's rules, in which its terminals come in another order, and much stands in other ways.
func (d *drawer) written(g api.Grammar) string {
	gap := func() string { return d.of(" ", "  ", "\n", "\t", "\r\n", " // a\n", "/**/", "{ }", "<a>") }
	var b strings.Builder
	all := func(word string, names []string) {
		if len(names) > 0 {
			b.WriteString(word + gap() + strings.Join(names, gap()) + gap())
		}
	}
	if d.Below(2) == 0 {
		all("%start", g.Nons[g.Start:g.Start+1])
	}
	var tokens []string
	for _, i := range d.Order(len(g.Terms)) {
		if t := g.Terms[i]; t.Level == 0 && t.Name[0] != '\'' && t.Name != "error" || d.Below(2) == 0 {
			tokens = append(tokens, t.Name)
		}
	}
	cut := d.Below(len(tokens) + 1)
	all("%token", tokens[:cut])
	for level := 1; level <= len(g.Terms); level++ {
		on := namesOn(g.Terms, level)
		slices.Reverse(on)
		all(words(g.Terms, level), on)
	}
	all("%token", tokens[cut:])
	b.WriteString("%%" + gap())
	for i, r := range g.Rules {
		if i > 0 && r.Left == g.Rules[i-1].Left && d.Below(3) > 0 {
			b.WriteString("|")
		} else {
			b.WriteString(";"[:min(i, 1)] + gap() + g.Nons[r.Left] + ":")
		}
		for _, sym := range r.Right {
			b.WriteString(gap() + specimen.NameOf(g, sym))
		}
		if r.Prec >= 0 && (r.Prec != specimen.LastOf(r.Right) || d.Below(4) == 0) {
			b.WriteString(" %prec " + g.Terms[r.Prec].Name)
		}
	}
	return b.String() + ";" + d.of("", "\n", "%%", "%% ' {")
}

// namesOn are those of the terminals on a level.
func namesOn(l []api.Term, level int) []string {
	var names []string
	for _, t := range l {
		if t.Level == level {
			names = append(names, t.Name)
		}
	}
	return names
}

// words are how a level's declaration begins: none of a level on which there is none.
func words(l []api.Term, level int) string {
	for _, t := range l {
		if t.Level == level {
			return map[int]string{1: "%left", 2: "%right", 3: "%nonassoc"}[t.Assoc]
		}
	}
	return ""
}

// modelOf is the text of a grammar that may be, by other means: it is written all at once, level by level, whether there are any or not.
func modelOf(g api.Grammar) string {
	text := ""
	for _, t := range g.Terms {
		text += fmt.Sprintf("%%token %s\n", t.Name)
	}
	for level := 1; level <= 24; level++ {
		if on := namesOn(g.Terms, level); len(on) > 0 {
			text += fmt.Sprintf("%s %s\n", words(g.Terms, level), strings.Join(on, " "))
		}
	}
	text += fmt.Sprintf("%%start %s\n%%%%\n", g.Nons[g.Start])
	for _, r := range g.Rules {
		text += g.Nons[r.Left] + " : "
		for _, sym := range r.Right {
			text += specimen.NameOf(g, sym) + " "
		}
		if r.Prec != specimen.LastOf(r.Right) {
			text += "%prec " + g.Terms[r.Prec].Name + " "
		}
		text += ";\n"
	}
	return text
}

// same: are they the same, field by field?
func same(a, b api.Grammar) bool {
	return reflect.DeepEqual(specimen.Copied(a), specimen.Copied(b))
}
