package trim

import "gerund/api"

// grow makes known the nonterminals that rules bring, by what is known so far, till none brings another one: so there are just those that follow.
func grow(known []bool, rules []api.Rule, brings func(api.Rule) []int) {
	for grew := true; grew; {
		grew = false
		for _, r := range rules {
			for _, n := range brings(r) {
				grew = grew || !known[n]
				known[n] = true
			}
		}
	}
}

// lefts are the nonterminals that have a rule all of whose symbols pass, by the nonterminals that are known to be such ones.
func lefts(g api.Grammar, passes func(sym int, known []bool) bool) []bool {
	known := make([]bool, len(g.Nons))
	grow(known, g.Rules, func(r api.Rule) []int {
		for _, sym := range r.Right {
			if !passes(sym, known) {
				return nil
			}
		}
		return []int{r.Left}
	})
	return known
}

// nons are the nonterminals in a rule's Right.
func nons(r api.Rule) []int {
	var l []int
	for _, sym := range r.Right {
		if isNon(sym) {
			l = append(l, non(sym))
		}
	}
	return l
}

// isProductive: are all nonterminals in a rule's Right productive? (Then its Left is, too.)
func isProductive(r api.Rule, productive []bool) bool {
	for _, n := range nons(r) {
		if !productive[n] {
			return false
		}
	}
	return true
}

// isNon: is a symbol a nonterminal's?
func isNon(sym int) bool {
	return sym < 0
}

// non is the nonterminal of a symbol below 0, and a nonterminal's symbol.
func non(n int) int {
	return -1 - n
}
