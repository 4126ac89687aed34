package table

import "gerund/api"

// settle is how a rule and a shift are settled, of a grammar that may be and has them.
func settle(g api.Grammar, rule, term int) int {
	reduced, shifted := levelOf(g, g.Rules[rule].Prec), levelOf(g, term)
	switch {
	case reduced == 0 || shifted == 0:
		return api.ByDefault
	case reduced > shifted:
		return api.ByReduce
	case reduced < shifted:
		return api.ByShift
	}
	switch g.Terms[term].Assoc {
	case api.AssocLeft:
		return api.ByReduce
	case api.AssocRight:
		return api.ByShift
	}
	return api.ByNone
}

// levelOf is a terminal's level; the end has none, nor has the Prec -1 of a rule.
func levelOf(g api.Grammar, term int) int {
	if !isBelow(term, len(g.Terms)) {
		return 0
	}
	return g.Terms[term].Level
}

// isBelow: is a number one of those from 0 on, below another one?
func isBelow(n, bound int) bool {
	return n >= 0 && n < bound
}
