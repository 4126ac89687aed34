package pack_test

import (
	"slices"
	"testing"

	"gerund/api"
	"gerund/pack"
	"gerund/specimen"
)

// isMay holds what is told of a packed table to whether it may be: if so, it is unpacked as it is written, and its places are told; else nothing of it is.
func isMay(t *testing.T, p api.Packed, want bool) {
	t.Helper()
	if got := pack.Right(p); got != want || may(p) != want {
		t.Fatalf("%v: %v, not %v", p, got, want)
	}
	wantErr, wantTable := api.ErrArg, api.Table{}
	if want {
		wantErr, wantTable = api.OK, written(p)
	}
	if u, e := pack.Unpack(p); e != wantErr || !specimen.SameTables(u, wantTable) {
		t.Fatalf("%v: %v %v, not %v %v", p, u, e, wantTable, wantErr)
	}
	last := max(len(p.Of), len(p.To)) - 1
	isAt(t, p, wantTable, []int{-1, 0, last / 2, last, last + 1}, []int{-1, 0, 1, 2, p.Terms, p.Terms + 1, p.Nons - 1, p.Nons})
}

// isAt holds what is told of states and columns, such as there are and such as there aren't, to what stands there.
func isAt(t *testing.T, p api.Packed, u api.Table, states, columns []int) {
	t.Helper()
	for _, n := range states {
		for _, col := range columns {
			if x, want := pack.Action(p, n, col), cellAt(u, n, col); x != want {
				t.Fatalf("%v: state %d, %d: %v, not %v", p, n, col, x, want)
			}
			if to, want := pack.Goto(p, n, col), numberAt(u, n, col); to != want {
				t.Fatalf("%v: state %d, %d: %v, not %v", p, n, col, to, want)
			}
		}
	}
}

// plenty is a packed table of so many states, rows, rows of Gotos, and of such sizes, with entries at most columns of each row; no two rows are alike, as far as there are columns.
func plenty(states, rows, gotos, terms, nons int) api.Packed {
	p := api.Packed{Terms: terms, Nons: nons}
	for n := range rows {
		var row []api.Entry
		for col := range min(terms+1, 30) {
			if (n+col)%4 > 0 {
				row = append(row, api.Entry{Col: col, Cell: api.Cell{Kind: 1 + col%2, N: n}})
			}
		}
		p.Rows = append(p.Rows, row)
	}
	for n := range gotos {
		var row []api.Edge
		for col := range min(nons, 30) {
			if (n+col)%4 > 0 {
				row = append(row, api.Edge{Sym: col, To: n})
			}
		}
		p.Gotos = append(p.Gotos, row)
	}
	for n := range states {
		p.Of, p.To = append(p.Of, n%max(1, rows)), append(p.To, n%max(1, gotos))
	}
	return p
}

// P18.1: Terms of -1, 0, 24, 25, and others; Nons of -1, 0, 16, 17, and others; in rows nothing, or as much as may be.
func TestRightSizes(t *testing.T) {
	for _, terms := range specimen.About(24, 16, 12) {
		for _, nons := range specimen.About(16, 24, 7) {
			want := terms >= 0 && terms <= 24 && nons >= 0 && nons <= 16
			isMay(t, api.Packed{Terms: terms, Nons: nons, Rows: [][]api.Entry{nil}, Of: []int{0}, Gotos: [][]api.Edge{{}}, To: []int{0}}, want)
			isMay(t, plenty(4, 3, 2, terms, nons), want)
		}
	}
	isMay(t, api.Packed{}, false)
	isMay(t, api.Packed{Rows: [][]api.Entry{{}}, Gotos: [][]api.Edge{{}}}, false)
}

// P18.1: Of and To with no numbers, with just 300, and with one more, and others; not equally many.
func TestRightStates(t *testing.T) {
	counts := []int{0, 1, 2, 3, 150, 299, 300, 301, 302, 1 << 16}
	for _, of := range counts {
		for _, to := range append(counts, of+1, max(0, of-1)) {
			p := plenty(of, 3, 2, 4, 3)
			p.To = plenty(to, 3, 2, 4, 3).To
			isMay(t, p, of == to && of > 0 && of <= 300)
		}
	}
}

// P18.1: no rows, just 300, and one more, and others, of each of both, as many of them as there are states, more and fewer: rows that no state has may be.
func TestRightRows(t *testing.T) {
	counts := []int{0, 1, 2, 3, 150, 299, 300, 301, 302, 1 << 12}
	for _, states := range []int{1, 2, 300} {
		for _, rows := range counts {
			for _, gotos := range counts {
				isMay(t, plenty(states, rows, gotos, 2, 2), rows > 0 && gotos > 0 && rows <= 300 && gotos <= 300)
			}
		}
	}
	// Rows that are alike, and with nothing in them.
	p := plenty(3, 0, 0, 2, 2)
	p.Rows, p.Gotos = make([][]api.Entry, 300), make([][]api.Edge, 300)
	isMay(t, p, true)
	p.Rows = append(p.Rows, nil)
	isMay(t, p, false)
	p.Rows, p.Gotos = p.Rows[:1], append(p.Gotos, nil)
	isMay(t, p, false)
}

// P18.1: a row's number of -1, of the last row, one more, and others: of the first state, one within, and the last one, in Of and in To.
func TestRightNumbers(t *testing.T) {
	for _, states := range []int{1, 2, 5, 300} {
		for _, rows := range []int{1, 2, 3, 300} {
			for _, n := range specimen.About(rows, 17, 300) {
				for _, at := range []int{0, states / 2, states - 1} {
					p := plenty(states, rows, 17, 2, 2)
					p.Of[at] = n
					isMay(t, p, n >= 0 && n < rows)
					p = plenty(states, 17, rows, 2, 2)
					p.To[at] = n
					isMay(t, p, n >= 0 && n < rows)
				}
			}
		}
	}
}

// entries is a row of Actions with something at columns.
func entries(columns ...int) []api.Entry {
	var l []api.Entry
	for i, col := range columns {
		l = append(l, api.Entry{Col: col, Cell: api.Cell{Kind: 1, N: i}})
	}
	return l
}

// edges is a row of Gotos with something at columns.
func edges(columns ...int) []api.Edge {
	var l []api.Edge
	for i, col := range columns {
		l = append(l, api.Edge{Sym: col, To: i})
	}
	return l
}

// isColumns holds packed tables with columns in one row, of Actions, and of Gotos, to whether they may be: in the first row, one within, the last one, and one that no state has.
func isColumns(t *testing.T, size int, columns ...int) {
	t.Helper()
	for at := range 4 {
		p := plenty(3, 4, 4, size, 3)
		p.Rows[at] = entries(columns...)
		isMay(t, p, rising(columns, size))
		p = plenty(3, 4, 4, 5, size)
		p.Gotos[at] = edges(columns...)
		isMay(t, p, size <= 16 && rising(columns, size-1))
	}
}

// P18.1: one column, of -1, of Terms, of one more, of Nons, and others.
func TestRightColumn(t *testing.T) {
	for _, size := range []int{0, 1, 2, 15, 16, 24} {
		for _, col := range specimen.About(size, 16, 24) {
			isColumns(t, size, col)
		}
	}
}

// P18.1: columns that rise, fall, stand twice, or aren't there, in all ways of up to four of them.
func TestRightColumns(t *testing.T) {
	for n := range 5 {
		for _, size := range []int{0, 1, 2, 3} {
			columns := make([]int, n)
			for more := true; more; more = specimen.Count(columns, 6) {
				l := slices.Clone(columns)
				for i := range l {
					l[i]--
				}
				isColumns(t, size, l...)
			}
		}
	}
}

// P18.1: as many columns as there are, and one more; each of them at another one's place, or twice, or left out; all falling.
func TestRightFull(t *testing.T) {
	for _, size := range []int{1, 2, 15, 16, 24} {
		for columns := size - 1; columns <= size+2; columns++ {
			all := specimen.Rising(columns)
			isColumns(t, size, all...)
			isColumns(t, size, append(slices.Clone(all), slices.Repeat([]int{size - 1}, 1<<12)...)...)
			for i := range columns {
				isColumns(t, size, slices.Delete(slices.Clone(all), i, i+1)...)
				isColumns(t, size, slices.Insert(slices.Clone(all), i, i)...)
				isColumns(t, size, slices.Insert(slices.Clone(all), i, -1)...)
				swapped := slices.Clone(all)
				swapped[i], swapped[columns/2] = swapped[columns/2], i
				isColumns(t, size, swapped...)
			}
			slices.Reverse(all)
			isColumns(t, size, all...)
		}
	}
}

// P18.1: a cell that is all 0, and a To of -1, at each place of the first row, one within, the last one, and one that no state has; others with a 0, and with numbers far away, may be.
func TestRightCells(t *testing.T) {
	for at := range 4 {
		for i := range 5 {
			for _, n := range extremes() {
				for _, x := range []api.Cell{{Kind: n}, {N: n}, {Kind: n, N: n}, {Kind: 1, N: n}, {Kind: n, N: 1}} {
					p := plenty(3, 4, 4, 4, 5)
					p.Rows[at] = entries(0, 1, 2, 3, 4)
					p.Rows[at][i].Cell = x
					isMay(t, p, x.Kind != 0 || x.N != 0)
				}
				p := plenty(3, 4, 4, 4, 5)
				p.Gotos[at] = edges(0, 1, 2, 3, 4)
				p.Gotos[at][i].To = n
				isMay(t, p, n != -1)
			}
		}
	}
}

// P18.1: all rows of up to two entries, of few columns and cells, and likewise of Gotos, each of three sizes.
func TestEverySmall(t *testing.T) {
	oks := map[bool]int{}
	cells, numbers := []api.Cell{{}, {Kind: 1}, {N: -1}}, []int{-1, 0, 1}
	for n := range 3 {
		at := make([]int, n)
		for more := true; more; more = specimen.Count(at, 12) {
			for size := range 3 {
				p := api.Packed{Terms: size, Nons: size, Rows: [][]api.Entry{{}}, Of: []int{0}, Gotos: [][]api.Edge{{}}, To: []int{0}}
				q := copied(p)
				for _, i := range at {
					p.Rows[0] = append(p.Rows[0], api.Entry{Col: i/3 - 1, Cell: cells[i%3]})
					q.Gotos[0] = append(q.Gotos[0], api.Edge{Sym: i/3 - 1, To: numbers[i%3]})
				}
				isMay(t, p, may(p))
				isMay(t, q, may(q))
				oks[may(p)]++
				oks[may(q)]++
			}
		}
	}
	if oks[true] < 40 || oks[false] < 500 {
		t.Error(oks)
	}
}

// drawnPacked is a packed table that may be, most often one that no table is packed to: with rows that are alike, in any order, or that no state has.
func drawnPacked(d *specimen.Drawer) api.Packed {
	p := api.Packed{Terms: d.Below(25), Nons: d.Below(17)}
	states, most := 1+d.Below(8), 1+d.Below(8)
	if d.Below(6) == 0 {
		states, most = 1+d.Below(300), 1+d.Below(300)
	}
	for range 1 + d.Below(most) {
		var row []api.Entry
		often := 1 + d.Below(6)
		for col := range p.Terms + 1 {
			if x := drawnCell(d); d.Below(often) == 0 && x != (api.Cell{}) {
				row = append(row, api.Entry{Col: col, Cell: x})
			}
		}
		p.Rows = append(p.Rows, row)
	}
	for range 1 + d.Below(most) {
		var row []api.Edge
		often := 1 + d.Below(6)
		for col := range p.Nons {
			if to := drawnNumber(d); d.Below(often) == 0 && to != -1 {
				row = append(row, api.Edge{Sym: col, To: to})
			}
		}
		p.Gotos = append(p.Gotos, row)
	}
	for range states {
		p.Of, p.To = append(p.Of, d.Below(len(p.Rows))), append(p.To, d.Below(len(p.Gotos)))
	}
	return p
}

// changed is a packed table with one thing changed.
func changed(d *specimen.Drawer, p api.Packed) api.Packed {
	p = copied(p)
	row, gotos, state := d.Below(len(p.Rows)), d.Below(len(p.Gotos)), d.Below(len(p.Of))
	number := func(n int) int { return d.Below(n+4) - 2 }
	switch d.Below(12) {
	case 0:
		p.Terms = number(25)
	case 1:
		p.Nons = number(17)
	case 2:
		p.Of[state] = number(len(p.Rows))
	case 3:
		p.To[state] = number(len(p.Gotos))
	case 4:
		p.Of, p.To = append(p.Of, d.Below(len(p.Rows))), p.To[:len(p.To)-d.Below(2)]
	case 5:
		p.Rows = p.Rows[:row]
	case 6:
		p.Gotos = p.Gotos[:gotos]
	case 7, 8:
		p.Rows[row] = slices.Insert(p.Rows[row], d.Below(len(p.Rows[row])+1), api.Entry{Col: number(p.Terms), Cell: drawnCell(d)})
	case 9, 10:
		p.Gotos[gotos] = slices.Insert(p.Gotos[gotos], d.Below(len(p.Gotos[gotos])+1), api.Edge{Sym: number(p.Nons), To: drawnNumber(d)})
	default:
		p.Rows, p.Gotos = slices.Insert(p.Rows, row, entries(number(p.Terms))), slices.Insert(p.Gotos, gotos, edges(number(p.Nons)))
	}
	return p
}

// P18.1: drawn packed tables; with one thing changed some still may be, and some not.
func TestRightDrawn(t *testing.T) {
	d, oks := specimen.Drawer(182), map[bool]int{}
	for range 4000 {
		p := drawnPacked(&d)
		isMay(t, p, true)
		q := changed(&d, p)
		isMay(t, q, may(q))
		oks[may(q)]++
	}
	if oks[true] < 800 || oks[false] < 800 {
		t.Error(oks)
	}
}
