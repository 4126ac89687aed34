package least

import (
	"slices"

	"gerund/api"
)

// A plan is a nonterminal that is productive, its height, and its least rule.
type plan struct {
	non, height, rule int
}

// plansOf are those of a grammar that may be, as they rise: the nonterminals of a least rule have theirs ahead.
func plansOf(g api.Grammar) []plan {
	var l []plan
	known := make([]bool, len(g.Nons))
	for height := 1; ; height++ {
		next := nextPlans(g.Rules, known, height)
		if len(next) == 0 {
			return l
		}
		// Those of one height don't count for one another: they become known together.
		for _, p := range next {
			known[p.non] = true
		}
		l = append(l, next...)
	}
}

// nextPlans are those of a height, all that are less high being known: by the first rule whose nonterminals all are known.
func nextPlans(rules []api.Rule, known []bool, height int) []plan {
	var l []plan
	planned := slices.Clone(known)
	for i, r := range rules {
		if !planned[r.Left] && areKnown(r.Right, known) {
			planned[r.Left] = true
			l = append(l, plan{non: r.Left, height: height, rule: i})
		}
	}
	return l
}

// areKnown: are all nonterminals among symbols known?
func areKnown(syms []int, known []bool) bool {
	return !slices.ContainsFunc(syms, func(sym int) bool { return isNon(sym) && !known[non(sym)] })
}

// isNon: is a symbol a nonterminal's?
func isNon(sym int) bool {
	return sym < 0
}

// non is the nonterminal of a symbol below 0, and a nonterminal's symbol.
func non(n int) int {
	return -1 - n
}
