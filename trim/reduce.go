package trim

import (
	"slices"

	"gerund/api"
)

// kept are the numbers of the rules that a grammar has, reduced.
func kept(g api.Grammar) []int {
	productive, reachable := Productive(g), Reachable(g)
	var l []int
	for i, r := range g.Rules {
		if reachable[r.Left] && isProductive(r, productive) {
			l = append(l, i)
		}
	}
	return l
}

// reduced is a grammar of the rules that are kept; the start, and each nonterminal in their Rights, is a Left of these.
func reduced(g api.Grammar, kept []int) api.Grammar {
	h := api.Grammar{Terms: slices.Clone(g.Terms)}
	anew := make([]int, len(g.Nons))
	came := make([]bool, len(g.Nons))
	for _, i := range kept {
		left := g.Rules[i].Left
		if !came[left] {
			came[left], anew[left] = true, len(h.Nons)
			h.Nons = append(h.Nons, g.Nons[left])
		}
	}
	for _, i := range kept {
		h.Rules = append(h.Rules, renumbered(g.Rules[i], anew))
	}
	h.Start = anew[g.Start]
	return h
}

// renumbered is a rule, its nonterminals numbered anew.
func renumbered(r api.Rule, anew []int) api.Rule {
	right := make([]int, len(r.Right))
	for i, sym := range r.Right {
		if isNon(sym) {
			sym = non(anew[non(sym)])
		}
		right[i] = sym
	}
	return api.Rule{Left: anew[r.Left], Right: right, Prec: r.Prec}
}
