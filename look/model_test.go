package look_test

import (
	"slices"

	"gerund/api"
	"gerund/auto"
	"gerund/first"
	"gerund/trim"
)

// spot is an item of a state.
type spot struct {
	state int
	item  api.Item
}

// gift is what an item gives to another one: what begins behind it, and, if all there may be nothing, its own set.
type gift struct {
	to     spot
	begins uint32
	own    bool
}

// model is what the chapter's words tell of a grammar, item by item.
type model struct {
	g        api.Grammar
	err      api.Errno
	states   []api.State
	closures [][]api.Item
	gifts    map[spot][]gift
	sets     map[spot]uint32
	looks    [][]api.Look
}

// modelOf tells it.
func modelOf(g api.Grammar) model {
	m := model{g: g, gifts: map[spot][]gift{}, sets: map[spot]uint32{}}
	m.states, m.err = auto.Build(g)
	for n, s := range m.states {
		m.closures = append(m.closures, auto.Closure(g, s.Kernel))
		for _, x := range m.closures[n] {
			m.give(spot{n, x})
		}
	}
	for term := range len(g.Terms) + 1 {
		m.spread(term)
	}
	for n := range m.states {
		m.looks = append(m.looks, m.ended(n))
	}
	return m
}

// right is the Right of a rule.
func (m model) right(rule int) []int {
	if rule < 0 {
		return []int{-1 - m.g.Start}
	}
	return m.g.Rules[rule].Right
}

// give puts down what an item gives: to itself moved on, and to the rules of the nonterminal behind its place.
func (m model) give(at spot) {
	right := m.right(at.item.Rule)
	if at.item.Dot == len(right) {
		return
	}
	sym, behind := right[at.item.Dot], right[at.item.Dot+1:]
	to, _ := auto.Walk(m.states, at.state, []int{sym})
	moved := api.Item{Rule: at.item.Rule, Dot: at.item.Dot + 1}
	m.gifts[at] = append(m.gifts[at], gift{to: spot{to, moved}, own: true})
	nullable := trim.Nullable(m.g)
	own := !slices.ContainsFunc(behind, func(sym int) bool { return sym >= 0 || !nullable[-1-sym] })
	begins := first.Of(m.g, behind, 0)
	for rule, r := range m.g.Rules {
		if -1-r.Left == sym {
			m.gifts[at] = append(m.gifts[at], gift{to: spot{at.state, api.Item{Rule: rule}}, begins: begins, own: own})
		}
	}
}

// spread gives one terminal, or the end, to all spots that have it, and to no others.
func (m model) spread(term int) {
	var open []spot
	give := func(to spot) {
		if m.sets[to]>>term&1 == 0 {
			m.sets[to] |= 1 << term
			open = append(open, to)
		}
	}
	if term == len(m.g.Terms) && m.err == api.OK {
		give(spot{0, api.Item{Rule: -1}})
	}
	for _, l := range m.gifts {
		for _, x := range l {
			if x.begins>>term&1 == 1 {
				give(x.to)
			}
		}
	}
	for len(open) > 0 {
		at := open[len(open)-1]
		open = open[:len(open)-1]
		for _, x := range m.gifts[at] {
			if x.own {
				give(x.to)
			}
		}
	}
}

// ended are a state's lookaheads: its closure's items are in order.
func (m model) ended(n int) []api.Look {
	var l []api.Look
	for _, x := range m.closures[n] {
		if x.Rule >= 0 && x.Dot == len(m.right(x.Rule)) {
			l = append(l, api.Look{Rule: x.Rule, Set: m.sets[spot{n, x}]})
		}
	}
	return l
}
