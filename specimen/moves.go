package specimen

import (
	"gerund/api"
	"gerund/least"
)

// A Move is one of a parse: a terminal comes, or a rule is reduced.
type Move struct {
	Reduce bool
	N      int
}

// Moves are those of a parse that follows a drawn tree of a nonterminal, of a grammar that is reduced; once there are so many, it goes on by the least trees.
func (d *Drawer) Moves(g api.Grammar, n, most int) []Move {
	return d.behind(nil, g, least.Rules(g), n, most)
}

// behind are moves, and behind them those of a nonterminal.
func (d *Drawer) behind(l []Move, g api.Grammar, rules []int, n, most int) []Move {
	rule := rules[n]
	for range 50 {
		if other := d.Below(len(g.Rules)); len(l) < most && g.Rules[other].Left == n {
			rule = other
			break
		}
	}
	for _, sym := range g.Rules[rule].Right {
		if sym < 0 {
			l = d.behind(l, g, rules, -1-sym, most)
		} else {
			l = append(l, Move{N: sym})
		}
	}
	return append(l, Move{Reduce: true, N: rule})
}
