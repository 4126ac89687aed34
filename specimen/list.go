package specimen

import "slices"

// SameRows: are they the same rows?
func SameRows[T comparable](a, b [][]T) bool {
	return slices.EqualFunc(a, b, slices.Equal[[]T])
}

// CopiedRows are the same rows, that share nothing with these.
func CopiedRows[T any](rows [][]T) [][]T {
	var l [][]T
	for _, row := range rows {
		l = append(l, slices.Clone(row))
	}
	return l
}

// SpareList is the same list, that shares nothing with this one, and has something in the room behind it; and tells later whether all of it is as it was.
func SpareList[T comparable](l []T, x T) ([]T, func() bool) {
	full := append(slices.Clone(l), x)
	was := slices.Clone(full)
	return full[:len(l)], func() bool { return slices.Equal(full, was) }
}

// SpareRows are the same rows, that share nothing with these, and have something in the room behind each of them, and one more row behind the last one; and tells later whether all of it is as it was.
func SpareRows[T comparable](rows [][]T, x T) ([][]T, func() bool) {
	full := append(CopiedRows(rows), []T{x})
	for n, row := range full {
		full[n] = append(row, x)
	}
	was := CopiedRows(full)
	given := full[:len(rows)]
	for n, row := range given {
		given[n] = row[:len(row)-1]
	}
	return given, func() bool {
		now := slices.Clone(full)
		for n, row := range given {
			now[n] = row[:min(cap(row), len(row)+1)]
		}
		return SameRows(now, was)
	}
}

// Spoil writes into all that a list has room for.
func Spoil[T any](l []T, x T) {
	l = l[:cap(l)]
	for i := range l {
		l[i] = x
	}
}
