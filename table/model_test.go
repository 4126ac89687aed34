package table_test

import (
	"cmp"
	"slices"

	"gerund/api"
	"gerund/auto"
	"gerund/look"
)

// model is what the chapter's words tell of a grammar, cell by cell.
type model struct {
	g         api.Grammar
	err       api.Errno
	states    []api.State
	looks     [][]api.Look
	table     api.Table
	conflicts []api.Conflict
}

// modelOf tells it.
func modelOf(g api.Grammar) model {
	m := model{g: g}
	m.states, m.err = auto.Build(g)
	m.looks, _ = look.Of(g)
	for n := range m.states {
		var row []api.Cell
		for term := range len(g.Terms) + 1 {
			row = append(row, m.decide(n, term))
		}
		m.table.Actions = append(m.table.Actions, row)
		var gotos []int
		for e := range g.Nons {
			to, ok := auto.Walk(m.states, n, []int{-1 - e})
			if !ok {
				to = -1
			}
			gotos = append(gotos, to)
		}
		m.table.Gotos = append(m.table.Gotos, gotos)
	}
	slices.SortFunc(m.conflicts, inOrder)
	return m
}

// inOrder is below 0, if a conflict stands ahead of another one, and above 0 behind it.
func inOrder(a, b api.Conflict) int {
	last := func(x api.Conflict) int {
		if x.Kind == api.ByOrder {
			return 0
		}
		return 1
	}
	return cmp.Or(cmp.Compare(a.State, b.State), cmp.Compare(a.Term, b.Term), cmp.Compare(last(a), last(b)), cmp.Compare(a.Rule, b.Rule))
}

// could is all that a parser could do: shift, or accept, and each of the rules.
func (m model) could(n, term int) []api.Cell {
	var l []api.Cell
	if to, ok := auto.Walk(m.states, n, []int{term}); ok {
		l = append(l, api.Cell{Kind: api.ActShift, N: to})
	}
	if term == len(m.g.Terms) && slices.Contains(auto.Closure(m.g, m.states[n].Kernel), api.Item{Rule: -1, Dot: 1}) {
		l = append(l, api.Cell{Kind: api.ActAccept})
	}
	for _, x := range m.looks[n] {
		if x.Set>>term&1 == 1 {
			l = append(l, api.Cell{Kind: api.ActReduce, N: x.Rule})
		}
	}
	return l
}

// decide is what it does, and puts down the conflicts.
func (m *model) decide(n, term int) api.Cell {
	l := m.could(n, term)
	if len(l) == 0 {
		return api.Cell{}
	}
	best := l[0]
	if best.Kind != api.ActReduce && len(l) > 1 {
		kind := settled(m.g, l[1].N, term)
		m.conflicts = append(m.conflicts, api.Conflict{State: n, Term: term, Kind: kind, Rule: l[1].N, Other: -1})
		best = []api.Cell{api.ByReduce: l[1], api.ByShift: l[0], api.ByNone: {}, api.ByDefault: l[0]}[kind]
		l = l[1:]
	}
	for _, x := range l[1:] {
		m.conflicts = append(m.conflicts, api.Conflict{State: n, Term: term, Kind: api.ByOrder, Rule: x.N, Other: l[0].N})
	}
	return best
}

// settled is how a rule and a shift are settled, both of which there are.
func settled(g api.Grammar, rule, term int) int {
	prec := g.Rules[rule].Prec
	if prec == -1 || term == len(g.Terms) || g.Terms[prec].Level == 0 || g.Terms[term].Level == 0 {
		return api.ByDefault
	}
	reduced, shifted := g.Terms[prec].Level, g.Terms[term].Level
	assoc := g.Terms[term].Assoc
	if reduced > shifted || reduced == shifted && assoc == api.AssocLeft {
		return api.ByReduce
	}
	if reduced < shifted || reduced == shifted && assoc == api.AssocRight {
		return api.ByShift
	}
	return api.ByNone
}
