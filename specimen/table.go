package specimen

import (
	"slices"

	"gerund/api"
)

// Blank is a table of so many states, in which nothing is done, by so many terminals and the end, and so many nonterminals.
func Blank(states, terms, nons int) api.Table {
	var u api.Table
	for range states {
		u.Actions = append(u.Actions, make([]api.Cell, terms+1))
		u.Gotos = append(u.Gotos, slices.Repeat([]int{-1}, nons))
	}
	return u
}

// SameTables: are they the same tables?
func SameTables(a, b api.Table) bool {
	return SameRows(a.Actions, b.Actions) && SameRows(a.Gotos, b.Gotos)
}

// CopiedTable is the same table, that shares nothing with u.
func CopiedTable(u api.Table) api.Table {
	return api.Table{Actions: CopiedRows(u.Actions), Gotos: CopiedRows(u.Gotos)}
}

// SpareTable is the same table, that shares nothing with u, and has something in the room behind each of its lists; and tells later whether all of it is as it was.
func SpareTable(u api.Table) (api.Table, func() bool) {
	actions, cellsAsWere := SpareRows(u.Actions, api.Cell{Kind: api.ActShift, N: 77})
	gotos, numbersAsWere := SpareRows(u.Gotos, 77)
	return api.Table{Actions: actions, Gotos: gotos}, func() bool { return cellsAsWere() && numbersAsWere() }
}
