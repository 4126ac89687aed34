package pack_test

import (
	"testing"

	"gerund/api"
	"gerund/pack"
	"gerund/specimen"
	"gerund/table"
)

// drawnCell is one with small numbers, most often, or with such as nothing has; some are all 0, or all 0 but for one of both.
func drawnCell(d *specimen.Drawer) api.Cell {
	if l := extremes(); d.Below(6) == 0 {
		return api.Cell{Kind: l[d.Below(len(l))], N: l[d.Below(len(l))]}
	}
	return api.Cell{Kind: d.Below(3), N: d.Below(3)}
}

// drawnNumber is a small one, most often, some of them -1, or one such as nothing has.
func drawnNumber(d *specimen.Drawer) int {
	if l := extremes(); d.Below(6) == 0 {
		return l[d.Below(len(l))]
	}
	return d.Below(4) - 1
}

// drawRow writes into a row: another one that stood ahead, or something at columns, the more often the less the number is; then, at times, something at one column more.
func drawRow[T any](d *specimen.Drawer, rows [][]T, n, often int, drawn func(*specimen.Drawer) T) {
	row := rows[n]
	if n > 0 && d.Below(3) > 0 {
		copy(row, rows[d.Below(n)])
	} else {
		for col := range row {
			if d.Below(often) == 0 {
				row[col] = drawn(d)
			}
		}
	}
	if len(row) > 0 && d.Below(4) == 0 {
		row[d.Below(len(row))] = drawn(d)
	}
}

// drawnTable is one of up to 300 states, some of whose rows are alike, or alike but for one place.
func drawnTable(d *specimen.Drawer) api.Table {
	states := 1 + d.Below(10)
	if d.Below(8) == 0 {
		states = 1 + d.Below(300)
	}
	u := specimen.Blank(states, d.Below(25), d.Below(17))
	often := 1 + d.Below(5)
	for n := range states {
		drawRow(d, u.Actions, n, often, drawnCell)
		drawRow(d, u.Gotos, n, often, drawnNumber)
	}
	return u
}

// someStates are states of a table: all of a small one, of a great one the first one, some, and the last one.
func someStates(d *specimen.Drawer, u api.Table) []int {
	states := len(u.Actions)
	if states <= 12 {
		return specimen.Rising(states)
	}
	return []int{0, d.Below(states), d.Below(states), d.Below(states), states - 1}
}

// P18.1, P18.2: drawn tables: what was packed may be and, unpacked, is as it was; each cell and each number is told as it stands in the table; rows that are the same are one.
func TestDrawn(t *testing.T) {
	d := specimen.Drawer(184)
	var shared, single, across int
	for range 4000 {
		u := drawnTable(&d)
		p := isPacked(t, u)
		isTold(t, u, p, someStates(&d, u)...)
		switch states := len(p.Of); {
		case len(p.Rows) == states && len(p.Gotos) == states:
			single++
		case len(p.Rows) < states && len(p.Gotos) < states:
			shared++
		default:
			across++
		}
	}
	if single < 200 || shared < 2000 || across < 300 {
		t.Error(single, shared, across)
	}
}

// P18.1: drawn tables, one row of which is made longer or shorter, or which loses a row of one kind, aren't packed.
func TestDrawnRefused(t *testing.T) {
	d, refused := specimen.Drawer(185), 0
	for range 2000 {
		u := drawnTable(&d)
		n := d.Below(len(u.Actions))
		switch d.Below(6) {
		case 0:
			u.Actions[n] = append(u.Actions[n], drawnCell(&d))
		case 1:
			u.Actions[n] = u.Actions[n][1:]
		case 2:
			u.Gotos[n] = append(u.Gotos[n], drawnNumber(&d))
		case 3:
			u.Gotos[n] = u.Gotos[n][:len(u.Gotos[n])/2]
		case 4:
			u.Actions = u.Actions[1:]
		default:
			u.Gotos = append(u.Gotos, u.Gotos[n])
		}
		if modelOf(u).err == api.OK {
			isPacked(t, u)
		} else {
			isRefused(t, u)
			refused++
		}
	}
	if refused < 1500 {
		t.Error(refused)
	}
}

// built are tables of drawn grammars, some of many states, and of such as have just 299 and 300 states.
func built(seed, n int) []api.Table {
	var l []api.Table
	for _, g := range specimen.Varied(seed, n) {
		if u, _, e := table.Build(g); e == api.OK {
			l = append(l, u)
		}
	}
	for _, g := range specimen.About300() {
		if u, _, e := table.Build(g); e == api.OK {
			l = append(l, u)
		}
	}
	return l
}

// P18.1, P18.2: the tables of drawn grammars.
func TestGrammars(t *testing.T) {
	d := specimen.Drawer(186)
	var less, great, most int
	for _, u := range built(187, 2000) {
		p := isPacked(t, u)
		isTold(t, u, p, someStates(&d, u)...)
		if len(p.Rows) < len(p.Of) && len(p.Gotos) < len(p.To) {
			less++
		}
		if len(p.Of) > 100 {
			great++
		}
		if len(p.Of) == 300 {
			most++
		}
	}
	if less < 400 || great < 60 || most < 10 {
		t.Error(less, great, most)
	}
}

// P18.1, P18.2: what a packed table comes to that may be, with rows in any order, is packed with no more rows; unpacked and packed again it stays the same.
func TestAgain(t *testing.T) {
	d := specimen.Drawer(188)
	for range 1000 {
		p := drawnPacked(&d)
		u, _ := pack.Unpack(p)
		q := isPacked(t, u)
		v, _ := pack.Unpack(q)
		r := isPacked(t, v)
		if !same(q, r) || !specimen.SameTables(u, v) || len(q.Rows) > len(p.Rows) || len(q.Gotos) > len(p.Gotos) {
			t.Fatal(p, q, r)
		}
	}
}

// spare is the same packed table, that shares nothing with p, and has something in the room behind each of its lists; and tells later whether all of it is as it was.
func spare(p api.Packed) (api.Packed, func() bool) {
	var asWere [4]func() bool
	p.Rows, asWere[0] = specimen.SpareRows(p.Rows, api.Entry{Col: 77, Cell: api.Cell{Kind: 1, N: 77}})
	p.Of, asWere[1] = specimen.SpareList(p.Of, 77)
	p.Gotos, asWere[2] = specimen.SpareRows(p.Gotos, api.Edge{Sym: 77, To: 77})
	p.To, asWere[3] = specimen.SpareList(p.To, 77)
	return p, func() bool { return asWere[0]() && asWere[1]() && asWere[2]() && asWere[3]() }
}

// P18.1: tables stay as they were, their spare room too, and are answered the same once more.
func TestLeftAsItWas(t *testing.T) {
	d := specimen.Drawer(189)
	l := append(built(190, 100), api.Table{}, specimen.Blank(301, 2, 2), specimen.Blank(2, 25, 2), specimen.Blank(2, 2, 17))
	for range 300 {
		l = append(l, drawnTable(&d))
	}
	for _, u := range l {
		given, asWas := specimen.SpareTable(u)
		a, e := pack.Pack(given)
		b, again := pack.Pack(given)
		if !asWas() || e != again || !same(a, b) || !same(a, modelOf(u).p) {
			t.Fatal(u, given, a, b)
		}
	}
}

// packed are packed tables of all kinds: such as may be, and such as may not.
func packed(seed int) []api.Packed {
	d := specimen.Drawer(seed)
	l := []api.Packed{{}, gaps(), plenty(300, 300, 300, 24, 16), plenty(301, 3, 3, 2, 2), plenty(3, 301, 3, 2, 2)}
	for _, change := range unlike() {
		p := gaps()
		change(&p)
		l = append(l, p)
	}
	for range 200 {
		p := drawnPacked(&d)
		l = append(l, p, changed(&d, p))
	}
	return l
}

// P18.1: packed tables stay as they were, their spare room too, whatever is asked.
func TestPackedLeftAsItWas(t *testing.T) {
	for _, p := range packed(191) {
		given, asWas := spare(p)
		isMay(t, given, may(p))
		if isSame(t, given, p, true); !asWas() || !same(given, p) {
			t.Fatal(given, p)
		}
	}
}

// isSpoilt writes into each of some rows, and holds what is told to be as it was, but for that row; it is put back then.
func isSpoilt[T any](t *testing.T, rows [][]T, x T, isAsWas func() bool) {
	t.Helper()
	for n, row := range rows {
		was := append([]T(nil), row...)
		specimen.Spoil(row, x)
		if rows[n] = was; !isAsWas() {
			t.Fatal(n, rows)
		}
	}
}

// P18.1: what is packed is new memory: who writes into a list of it changes neither the table, nor another list, nor another answer.
func TestNewMemory(t *testing.T) {
	d := specimen.Drawer(192)
	for range 60 {
		u := drawnTable(&d)
		was := specimen.CopiedTable(u)
		p, q := isPacked(t, u), isPacked(t, u)
		isAsWas := func() bool { return specimen.SameTables(u, was) && same(p, q) }
		isSpoilt(t, p.Rows, api.Entry{Col: 88}, isAsWas)
		isSpoilt(t, p.Gotos, api.Edge{Sym: 88}, isAsWas)
		of, to := append([]int(nil), p.Of...), append([]int(nil), p.To...)
		specimen.Spoil(p.Of, 88)
		if p.Of = of; !isAsWas() {
			t.Fatal(p, q)
		}
		specimen.Spoil(p.To, 88)
		if p.To = to; !isAsWas() {
			t.Fatal(p, q)
		}
		specimen.Spoil(p.Rows, nil)
		specimen.Spoil(p.Gotos, nil)
		if !specimen.SameTables(u, was) || !same(q, modelOf(was).p) {
			t.Fatal(u, was, q)
		}
	}
}

// P18.1: what is unpacked is new memory, too: also the rows of states that have one packed row.
func TestNewMemoryUnpacked(t *testing.T) {
	d := specimen.Drawer(193)
	for range 60 {
		p := drawnPacked(&d)
		was := copied(p)
		u, _ := pack.Unpack(p)
		v, _ := pack.Unpack(p)
		isAsWas := func() bool { return same(p, was) && specimen.SameTables(u, v) }
		isSpoilt(t, u.Actions, api.Cell{Kind: 88}, isAsWas)
		isSpoilt(t, u.Gotos, 88, isAsWas)
		specimen.Spoil(u.Actions, nil)
		specimen.Spoil(u.Gotos, nil)
		if !same(p, was) || !specimen.SameTables(v, written(was)) {
			t.Fatal(p, was, v)
		}
	}
}
