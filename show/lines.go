package show

import (
	"slices"
	"strings"

	"gerund/api"
	"gerund/cfg"
)

// joined is the text of lines, each of which is its words.
func joined(l [][]string) string {
	var b strings.Builder
	for _, words := range l {
		b.WriteString(strings.Join(words, " "))
		b.WriteByte('\n')
	}
	return b.String()
}

// lines are those of a grammar that may be.
func lines(g api.Grammar) [][]string {
	l := slices.Concat(tokens(g.Terms), levels(g.Terms))
	l = append(l, []string{"%start", g.Nons[g.Start]}, []string{"%%"})
	for _, r := range g.Rules {
		l = append(l, rule(g, r))
	}
	return l
}

// tokens are the lines of terminals.
func tokens(terms []api.Term) [][]string {
	var l [][]string
	for _, t := range terms {
		l = append(l, []string{"%token", t.Name})
	}
	return l
}

// levels are the lines of levels of precedence, each of which is a terminal's.
func levels(terms []api.Term) [][]string {
	greatest := 0
	for _, t := range terms {
		greatest = max(greatest, t.Level)
	}
	l := make([][]string, greatest)
	for _, t := range terms {
		if t.Level == 0 {
			continue
		}
		i := t.Level - 1
		if len(l[i]) == 0 {
			l[i] = []string{way(t.Assoc)}
		}
		l[i] = append(l[i], t.Name)
	}
	return l
}

// way is the word of a level whose terminals associate so.
func way(assoc int) string {
	switch assoc {
	case api.AssocLeft:
		return "%left"
	case api.AssocRight:
		return "%right"
	}
	return "%nonassoc"
}

// rule is the line of one.
func rule(g api.Grammar, r api.Rule) []string {
	words := []string{g.Nons[r.Left], ":"}
	for _, sym := range r.Right {
		words = append(words, cfg.Name(g, sym))
	}
	if r.Prec != lastTerm(r.Right) {
		words = append(words, "%prec", cfg.Name(g, r.Prec))
	}
	return append(words, ";")
}

// lastTerm is the last terminal of symbols; -1, if there is none.
func lastTerm(right []int) int {
	last := -1
	for _, sym := range right {
		if sym >= 0 {
			last = sym
		}
	}
	return last
}
