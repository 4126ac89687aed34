package cfg

import (
	"slices"

	"gerund/api"
	"gerund/lex"
)

// rightNames: may the names of terminals and nonterminals be?
func rightNames(g api.Grammar) bool {
	if len(g.Terms) > api.MaxTerms || len(g.Nons) == 0 || len(g.Nons) > api.MaxNons {
		return false
	}
	names := map[string]bool{}
	for _, t := range g.Terms {
		if !isSpelt(t.Name) {
			return false
		}
		names[t.Name] = true
	}
	for _, n := range g.Nons {
		if !lex.Name(n) {
			return false
		}
		names[n] = true
	}
	// Where two are alike, there are fewer names.
	return len(names) == len(g.Terms)+len(g.Nons)
}

// rightLevels: may the levels of terminals be, and how they associate?
func rightLevels(l []api.Term) bool {
	assocs, greatest := map[int]int{}, 0
	for _, t := range l {
		assoc, known := assocs[t.Level]
		if !rightAssoc(t) || known && assoc != t.Assoc {
			return false
		}
		if t.Level > 0 {
			assocs[t.Level] = t.Assoc
		}
		greatest = max(greatest, t.Level)
	}
	// All are from 1 to the greatest one: were one of these missing, there would be fewer.
	return len(assocs) == greatest
}

// rightAssoc: may a terminal associate so, on its level?
func rightAssoc(t api.Term) bool {
	switch t.Assoc {
	case api.AssocNone:
		return t.Level == 0
	case api.AssocLeft, api.AssocRight, api.AssocNon:
		return t.Level > 0
	}
	return false
}

// rightRules: may the rules be?
func rightRules(g api.Grammar) bool {
	if len(g.Rules) > api.MaxRules {
		return false
	}
	came := 0 // how many nonterminals are a Left so far
	for _, r := range g.Rules {
		if r.Left < 0 || r.Left > came || !rightRule(g, r) {
			return false
		}
		came = max(came, r.Left+1)
	}
	// So no Left is too great either, and where a nonterminal is, a rule is.
	return came == len(g.Nons)
}

// rightRule: may the symbols of a rule be, and its Prec?
func rightRule(g api.Grammar, r api.Rule) bool {
	if len(r.Right) > api.MaxRight || slices.ContainsFunc(r.Right, func(sym int) bool { return !Has(g, sym) }) {
		return false
	}
	if r.Prec == -1 {
		return !slices.ContainsFunc(r.Right, isTerm)
	}
	return isTerm(r.Prec) && Has(g, r.Prec)
}

// isTerm: is a symbol a terminal's?
func isTerm(sym int) bool {
	return sym >= 0
}

// isSpelt: is a text a name, or a literal?
func isSpelt(text string) bool {
	return lex.Name(text) || lex.Literal(text)
}
