package table

import (
	"slices"

	"gerund/api"
)

// rightActions: may a row be one of Actions, where there are so many states?
func rightActions(g api.Grammar, states int, row []api.Cell) bool {
	return len(row) == len(g.Terms)+1 && !slices.ContainsFunc(row, func(x api.Cell) bool { return !rightCell(g, states, x) })
}

// rightCell: may a cell be?
func rightCell(g api.Grammar, states int, x api.Cell) bool {
	switch x.Kind {
	case api.ActNone, api.ActAccept:
		return x.N == 0
	case api.ActShift:
		return isBelow(x.N, states)
	case api.ActReduce:
		return isBelow(x.N, len(g.Rules))
	}
	return false
}

// rightGotos: may a row be one of Gotos, where there are so many states?
func rightGotos(g api.Grammar, states int, row []int) bool {
	return len(row) == len(g.Nons) && !slices.ContainsFunc(row, func(to int) bool { return to != -1 && !isBelow(to, states) })
}
