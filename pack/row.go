package pack

import (
	"slices"

	"gerund/api"
)

// share is rows, of whatever kind, each that is like another one once, in the order in which they first stand; and for each the number that it has there.
func share[E comparable](rows [][]E) ([][]E, []int) {
	var once [][]E
	of := make([]int, len(rows))
	for n, row := range rows {
		at := slices.IndexFunc(once, func(other []E) bool { return slices.Equal(other, row) })
		if at < 0 {
			at = len(once)
			once = append(once, row)
		}
		of[n] = at
	}
	return once, of
}

// sameRows: are they the same throughout?
func sameRows[E comparable](a, b [][]E) bool {
	return slices.EqualFunc(a, b, slices.Equal[[]E])
}

// isTable: is a table of a size that can be packed?
func isTable(t api.Table) bool {
	states := len(t.Actions)
	return states == len(t.Gotos) && isFrom(1, states, api.MaxStates) &&
		areEven(t.Actions, 1, api.MaxTerms+1) && areEven(t.Gotos, 0, api.MaxNons)
}

// areEven: are rows, of which there is one at least, equally long, and neither too short nor too long?
func areEven[T any](rows [][]T, least, most int) bool {
	columns := len(rows[0])
	return isFrom(least, columns, most) && !slices.ContainsFunc(rows, func(row []T) bool { return len(row) != columns })
}

// areRows: are numbers those of rows, of which there are so many?
func areRows(l []int, rows int) bool {
	return !slices.ContainsFunc(l, func(n int) bool { return !isFrom(0, n, rows-1) })
}

// isFrom: is n from least to most?
func isFrom(least, n, most int) bool {
	return n >= least && n <= most
}
