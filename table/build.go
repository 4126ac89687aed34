package table

import (
	"slices"

	"gerund/api"
	"gerund/look"
)

// A builder has a grammar's table, and the conflicts, of the states so far.
type builder struct {
	g         api.Grammar
	table     api.Table
	conflicts []api.Conflict
}

// shifts are what is shifted in a state: a row of Actions without rules.
func shifts(g api.Grammar, s api.State) []api.Cell {
	row := make([]api.Cell, len(g.Terms)+1)
	for _, x := range s.Edges {
		if !isNon(x.Sym) {
			row[x.Sym] = api.Cell{Kind: api.ActShift, N: x.To}
		}
	}
	if slices.Contains(s.Kernel, api.Item{Rule: -1, Dot: 1}) {
		row[len(g.Terms)] = api.Cell{Kind: api.ActAccept}
	}
	return row
}

// gotos is a state's row of Gotos.
func gotos(g api.Grammar, s api.State) []int {
	row := slices.Repeat([]int{-1}, len(g.Nons))
	for _, x := range s.Edges {
		if isNon(x.Sym) {
			row[non(x.Sym)] = x.To
		}
	}
	return row
}

// actions adds a state's row of Actions, by what is shifted there, and by its lookaheads.
func (b *builder) actions(state int, shifts []api.Cell, looks []api.Look) {
	row := make([]api.Cell, len(shifts))
	for term, shift := range shifts {
		row[term] = b.cell(state, term, shift, look.Rules(looks, term))
	}
	b.table.Actions = append(b.table.Actions, row)
}

// cell is what is done where there may be a shift, and rules; the conflicts of that are added.
func (b *builder) cell(state, term int, shift api.Cell, rules []int) api.Cell {
	if len(rules) == 0 {
		return shift
	}
	rule := rules[0]
	for _, other := range rules[1:] {
		b.conflicts = append(b.conflicts, api.Conflict{State: state, Term: term, Kind: api.ByOrder, Rule: other, Other: rule})
	}
	reduce := api.Cell{Kind: api.ActReduce, N: rule}
	if shift.Kind == api.ActNone {
		return reduce
	}
	kind := settle(b.g, rule, term)
	b.conflicts = append(b.conflicts, api.Conflict{State: state, Term: term, Kind: kind, Rule: rule, Other: -1})
	switch kind {
	case api.ByReduce:
		return reduce
	case api.ByNone:
		return api.Cell{}
	}
	return shift
}

// isNon: is a symbol a nonterminal's?
func isNon(sym int) bool {
	return sym < 0
}

// non is the nonterminal of a symbol below 0.
func non(sym int) int {
	return -1 - sym
}
