package auto

import (
	"cmp"
	"slices"

	"gerund/api"
)

// startRule is the number of the rule whose Right is the start alone.
const startRule = -1

// right is the Right of an item's rule; false, if there is no such rule.
func right(g api.Grammar, rule int) ([]int, bool) {
	switch {
	case rule == startRule:
		return []int{non(g.Start)}, true
	case rule >= 0 && rule < len(g.Rules):
		return g.Rules[rule].Right, true
	}
	return nil, false
}

// has: has a grammar that may be an item?
func has(g api.Grammar, x api.Item) bool {
	l, ok := right(g, x.Rule)
	return ok && x.Dot >= 0 && x.Dot <= len(l)
}

// next is the symbol behind an item's place; false, if there is none, or no such item.
func next(g api.Grammar, x api.Item) (int, bool) {
	l, _ := right(g, x.Rule)
	if x.Dot < 0 || x.Dot >= len(l) {
		return 0, false
	}
	return l[x.Dot], true
}

// closure is that of items, of a grammar that may be.
func closure(g api.Grammar, l []api.Item) []api.Item {
	var all []api.Item
	there := map[api.Item]bool{}
	add := func(x api.Item) {
		if !there[x] {
			there[x], all = true, append(all, x)
		}
	}
	for _, x := range l {
		if has(g, x) {
			add(x)
		}
	}
	// It grows while it is gone through.
	for i := 0; i < len(all); i++ {
		if sym, ok := next(g, all[i]); ok && isNon(sym) {
			begin(g, non(sym), add)
		}
	}
	slices.SortFunc(all, inOrder)
	return all
}

// begin adds the items of a nonterminal's rules at their beginnings.
func begin(g api.Grammar, left int, add func(api.Item)) {
	for i, r := range g.Rules {
		if r.Left == left {
			add(api.Item{Rule: i})
		}
	}
}

// inOrder is below 0, if a stands ahead of b among items in order, and above 0 behind it.
func inOrder(a, b api.Item) int {
	return cmp.Or(cmp.Compare(a.Rule, b.Rule), cmp.Compare(a.Dot, b.Dot))
}

// isNon: is a symbol a nonterminal's?
func isNon(sym int) bool {
	return sym < 0
}

// non is the nonterminal of a symbol below 0, and a nonterminal's symbol.
func non(n int) int {
	return -1 - n
}
