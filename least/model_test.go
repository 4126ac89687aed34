package least_test

import (
	"math"
	"slices"

	"gerund/api"
	"gerund/trim"
)

// model is what is told of a grammar that may be: of each nonterminal the height, and the least rule.
type model struct {
	g              api.Grammar
	heights, rules []int
}

// modelOf asks of each nonterminal within which heights it ends: a nonterminal within its own tree makes that no less high, so none needs more than there are nonterminals.
func modelOf(g api.Grammar) model {
	a := asker{g: g, told: map[[2]int]bool{}}
	m := model{g: g, heights: make([]int, len(g.Nons)), rules: slices.Repeat([]int{-1}, len(g.Nons))}
	for n := range g.Nons {
		for height := len(g.Nons); a.ends(n, height); height-- {
			m.heights[n] = height
		}
		if m.heights[n] > 0 {
			m.rules[n] = slices.IndexFunc(g.Rules, func(r api.Rule) bool { return r.Left == n && a.allEnd(r.Right, m.heights[n]-1) })
		}
	}
	return m
}

// asker is a grammar, and what it has told of nonterminals and heights.
type asker struct {
	g    api.Grammar
	told map[[2]int]bool
}

// ends: has a nonterminal a tree that isn't higher than that?
func (a asker) ends(n, height int) bool {
	if height <= 0 {
		return false
	}
	key := [2]int{n, height}
	if is, known := a.told[key]; known {
		return is
	}
	a.told[key] = slices.ContainsFunc(a.g.Rules, func(r api.Rule) bool { return r.Left == n && a.allEnd(r.Right, height-1) })
	return a.told[key]
}

// allEnd: have all nonterminals among symbols such trees?
func (a asker) allEnd(syms []int, height int) bool {
	return !slices.ContainsFunc(syms, func(sym int) bool { return sym < 0 && !a.ends(-1-sym, height) })
}

// derived are the rules and the terminals that come of symbols, the first nonterminal each time being put into its least rule's Right, till there are too many of the one or the other.
func (m model) derived(syms []int, most, long int) (rules, terms []int) {
	pending := slices.Clone(syms)
	for len(pending) > 0 && len(rules) <= most && len(terms) <= long {
		sym := pending[0]
		pending = pending[1:]
		if sym >= 0 {
			terms = append(terms, sym)
			continue
		}
		rule := m.rules[-1-sym]
		rules = append(rules, rule)
		pending = slices.Concat(m.g.Rules[rule].Right, pending)
	}
	return rules, terms
}

// tree is what Tree answers.
func (m model) tree(n int) ([]int, api.Errno) {
	switch {
	case n < 0 || n >= len(m.g.Nons):
		return nil, api.ErrArg
	case m.rules[n] < 0:
		return nil, api.ErrEmpty
	}
	rules, _ := m.derived([]int{-1 - n}, 300, math.MaxInt)
	if len(rules) > 300 {
		return nil, api.ErrBudget
	}
	return rules, api.OK
}

// word is what Word answers.
func (m model) word(syms []int) ([]int, api.Errno) {
	for _, sym := range syms {
		if sym >= len(m.g.Terms) || sym < -len(m.g.Nons) {
			return nil, api.ErrArg
		}
	}
	for _, sym := range syms {
		if sym < 0 && m.rules[-1-sym] < 0 {
			return nil, api.ErrEmpty
		}
	}
	rules, terms := m.derived(syms, 300, 60)
	if len(rules) > 300 || len(terms) > 60 {
		return nil, api.ErrBudget
	}
	return terms, api.OK
}

// greatest is the greatest of heights among symbols' nonterminals, 0 if there are none; false, if one of these isn't productive.
func greatest(productive []bool, heights, syms []int) (int, bool) {
	most := 0
	for _, sym := range syms {
		if sym >= 0 {
			continue
		}
		if !productive[-1-sym] {
			return 0, false
		}
		most = max(most, heights[-1-sym])
	}
	return most, true
}

// keeps: are these heights such as the chapter says, each that of one of its rules, and of none a greater one?
func keeps(g api.Grammar, heights []int) bool {
	productive := trim.Productive(g)
	lowest := make([]int, len(g.Nons))
	for _, r := range g.Rules {
		if most, ends := greatest(productive, heights, r.Right); ends && (lowest[r.Left] == 0 || most+1 < lowest[r.Left]) {
			lowest[r.Left] = most + 1
		}
	}
	return slices.Equal(heights, lowest)
}

// taken reads a tree of a nonterminal from the front of rules' numbers: its height, its word, and what is behind it; false, if none stands there.
func taken(g api.Grammar, l []int, n int) (height int, word, rest []int, ok bool) {
	if len(l) == 0 || l[0] < 0 || l[0] >= len(g.Rules) || g.Rules[l[0]].Left != n {
		return 0, nil, nil, false
	}
	rest = l[1:]
	for _, sym := range g.Rules[l[0]].Right {
		if sym >= 0 {
			word = append(word, sym)
			continue
		}
		h, part, behind, ok := taken(g, rest, -1-sym)
		if !ok {
			return 0, nil, nil, false
		}
		height, word, rest = max(height, h), append(word, part...), behind
	}
	return height + 1, word, rest, true
}
