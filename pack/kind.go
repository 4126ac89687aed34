package pack

import (
	"slices"

	"gerund/api"
)

// A kind of rows: what stands at a column where a packed row has nothing, and how a column, and what stands there, become an entry, and are read from one.
type kind[T, E comparable] struct {
	none  T
	enter func(col int, x T) E
	read  func(E) (int, T)
}

// cells is the kind of the rows of Actions.
func cells() kind[api.Cell, api.Entry] {
	return kind[api.Cell, api.Entry]{
		enter: func(col int, x api.Cell) api.Entry { return api.Entry{Col: col, Cell: x} },
		read:  func(x api.Entry) (int, api.Cell) { return x.Col, x.Cell },
	}
}

// numbers is that of the rows of Gotos.
func numbers() kind[int, api.Edge] {
	return kind[int, api.Edge]{
		none:  -1,
		enter: func(col, to int) api.Edge { return api.Edge{Sym: col, To: to} },
		read:  func(x api.Edge) (int, int) { return x.Sym, x.To },
	}
}

// packed are rows, packed.
func (k kind[T, E]) packed(rows [][]T) [][]E {
	l := make([][]E, len(rows))
	for n, row := range rows {
		for col, x := range row {
			if x != k.none {
				l[n] = append(l[n], k.enter(col, x))
			}
		}
	}
	return l
}

// unpacked are the rows of states that have those of these numbers, written out.
func (k kind[T, E]) unpacked(rows [][]E, of []int, columns int) [][]T {
	l := make([][]T, len(of))
	for state, n := range of {
		l[state] = slices.Repeat([]T{k.none}, columns)
		for _, x := range rows[n] {
			col, there := k.read(x)
			l[state][col] = there
		}
	}
	return l
}

// right: may packed rows be, where there are so many columns?
func (k kind[T, E]) right(rows [][]E, columns int) bool {
	return len(rows) <= api.MaxStates && !slices.ContainsFunc(rows, func(row []E) bool { return !k.rightRow(row, columns) })
}

// rightRow: may one be?
func (k kind[T, E]) rightRow(row []E, columns int) bool {
	least := 0 // the least column that may come next
	for _, x := range row {
		col, there := k.read(x)
		if !isFrom(least, col, columns-1) || there == k.none {
			return false
		}
		least = col + 1
	}
	return true
}

// at is what stands at a column of a packed row.
func (k kind[T, E]) at(row []E, col int) T {
	for _, x := range row {
		if other, there := k.read(x); other == col {
			return there
		}
	}
	return k.none
}
