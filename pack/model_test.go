package pack_test

import (
	"fmt"
	"slices"

	"gerund/api"
	"gerund/specimen"
)

// model is what the chapter's words tell of a table: whether it can be packed, and what it is then.
type model struct {
	u   api.Table
	err api.Errno
	p   api.Packed
}

// modelOf tells it.
func modelOf(u api.Table) model {
	cells, numbers, states := widths(u.Actions), widths(u.Gotos), len(u.Actions)
	if states != len(u.Gotos) || states > 300 || len(cells) != 1 || len(numbers) != 1 || cells[0] == 0 || cells[0] > 25 || numbers[0] > 16 {
		return model{u: u, err: api.ErrArg}
	}
	m := model{u: u, p: api.Packed{Terms: cells[0] - 1, Nons: numbers[0]}}
	m.p.Rows, m.p.Of = numbered(u.Actions, entriesOf)
	m.p.Gotos, m.p.To = numbered(u.Gotos, edgesOf)
	return m
}

// widths are how long rows are, each length once.
func widths[T any](rows [][]T) []int {
	var l []int
	for _, row := range rows {
		l = append(l, len(row))
	}
	slices.Sort(l)
	return slices.Compact(l)
}

// entriesOf is a row of Actions, packed.
func entriesOf(row []api.Cell) []api.Entry {
	var l []api.Entry
	for col, x := range slices.Backward(row) {
		if x.Kind != 0 || x.N != 0 {
			l = slices.Insert(l, 0, api.Entry{Col: col, Cell: x})
		}
	}
	return l
}

// edgesOf is a row of Gotos, packed.
func edgesOf(row []int) []api.Edge {
	var l []api.Edge
	for col, to := range slices.Backward(row) {
		if to != -1 {
			l = slices.Insert(l, 0, api.Edge{Sym: col, To: to})
		}
	}
	return l
}

// numbered are rows, packed, those alone that no row ahead is like; and for each row its number: a row has that of the first one that is like it, whole cells being held against each other.
func numbered[T comparable, E any](rows [][]T, packed func([]T) []E) ([][]E, []int) {
	var l [][]E
	of := make([]int, len(rows))
	for n, row := range rows {
		first := slices.IndexFunc(rows, func(other []T) bool { return slices.Equal(other, row) })
		if first < n {
			of[n] = of[first]
		} else {
			of[n], l = len(l), append(l, packed(row))
		}
	}
	return l, of
}

// same: are they the same packed tables? Their texts are: nil and empty lists have the same.
func same(a, b api.Packed) bool {
	return fmt.Sprint(a) == fmt.Sprint(b)
}

// may: may a packed table be?
func may(p api.Packed) bool {
	if p.Terms < 0 || p.Terms > 24 || p.Nons < 0 || p.Nons > 16 || len(p.Of) != len(p.To) || len(p.Of) == 0 || len(p.Of) > 300 {
		return false
	}
	for _, row := range p.Rows {
		var cols []int
		for _, x := range row {
			if x.Cell == (api.Cell{}) {
				return false
			}
			cols = append(cols, x.Col)
		}
		if !rising(cols, p.Terms) {
			return false
		}
	}
	for _, row := range p.Gotos {
		var cols []int
		for _, x := range row {
			if x.To == -1 {
				return false
			}
			cols = append(cols, x.Sym)
		}
		if !rising(cols, p.Nons-1) {
			return false
		}
	}
	return inRows(p.Of, len(p.Rows)) && inRows(p.To, len(p.Gotos))
}

// rising: do numbers, from 0 to a last one, rise? They are as they were, when they are put in order, and each stands once.
func rising(l []int, last int) bool {
	sorted := slices.Clone(l)
	slices.Sort(sorted)
	if sorted = slices.Compact(sorted); !slices.Equal(sorted, l) {
		return false
	}
	return len(l) == 0 || sorted[0] >= 0 && sorted[len(sorted)-1] <= last
}

// inRows: are there at most 300 rows, and has each of some numbers one?
func inRows(l []int, rows int) bool {
	return rows <= 300 && slices.Min(l) >= 0 && slices.Max(l) < rows
}

// written is the table of a packed one that may be.
func written(p api.Packed) api.Table {
	u := specimen.Blank(len(p.Of), p.Terms, p.Nons)
	for state := range p.Of {
		for _, x := range p.Rows[p.Of[state]] {
			u.Actions[state][x.Col] = x.Cell
		}
		for _, x := range p.Gotos[p.To[state]] {
			u.Gotos[state][x.Sym] = x.To
		}
	}
	return u
}

// cellAt is what must stand at a state and a terminal of a table; all 0 beyond it.
func cellAt(u api.Table, state, term int) api.Cell {
	if state >= 0 && state < len(u.Actions) && term >= 0 && term < len(u.Actions[state]) {
		return u.Actions[state][term]
	}
	return api.Cell{}
}

// numberAt is what must stand at a state and a nonterminal; -1 beyond the table.
func numberAt(u api.Table, state, non int) int {
	if state >= 0 && state < len(u.Gotos) && non >= 0 && non < len(u.Gotos[state]) {
		return u.Gotos[state][non]
	}
	return -1
}

// copied is the same packed table, that shares nothing with p.
func copied(p api.Packed) api.Packed {
	p.Rows, p.Of, p.Gotos, p.To = specimen.CopiedRows(p.Rows), slices.Clone(p.Of), specimen.CopiedRows(p.Gotos), slices.Clone(p.To)
	return p
}
