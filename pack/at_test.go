package pack_test

import (
	"slices"
	"testing"

	"gerund/api"
	"gerund/specimen"
)

// gaps is a packed table with columns between others that have nothing, rows with nothing in them, rows that no state has, and states whose rows stand in another order.
func gaps() api.Packed {
	return api.Packed{
		Terms: 6, Nons: 5,
		Rows:  [][]api.Entry{{}, {{Col: 1, Cell: api.Cell{Kind: 1, N: 4}}, {Col: 4, Cell: api.Cell{N: -7}}, {Col: 5, Cell: api.Cell{Kind: 3}}}, {{Col: 6, Cell: api.Cell{Kind: 9}}}, {{Col: 0, Cell: api.Cell{Kind: 2}}}},
		Of:    []int{3, 1, 0, 1},
		Gotos: [][]api.Edge{{{Sym: 1, To: 0}, {Sym: 3, To: -2}}, {{Sym: 0, To: 4}}, {{Sym: 4, To: 9}}, {}},
		To:    []int{0, 3, 1, 0},
	}
}

// P18.1: told cells and numbers: at columns of a row, between these, ahead of the first one and behind the last one; rows with nothing in them.
func TestAt(t *testing.T) {
	u := tableOf(t, []string{"2.0 - - - - - - | - 0 - -2 -", "- 1.4 - - 0.-7 3.0 - | - - - - -", "- - - - - - - | 4 - - - -", "- 1.4 - - 0.-7 3.0 - | - 0 - -2 -"})
	p := gaps()
	isMay(t, p, true)
	isTold(t, u, p, 0, 1, 2, 3)
	isAt(t, p, u, append(specimen.Rising(9), -3, -2, -1), append(specimen.Rising(30), -3, -2, -1))
}

// P18.1: states and columns below 0, the last one, one more, and far away: there nothing stands.
func TestAtAbout(t *testing.T) {
	for _, p := range []api.Packed{gaps(), plenty(1, 1, 1, 0, 0), plenty(1, 1, 1, 24, 16), plenty(4, 2, 3, 2, 0), plenty(4, 3, 2, 0, 2), plenty(7, 300, 300, 3, 3), plenty(300, 7, 5, 24, 16)} {
		if !may(p) {
			t.Fatal(p)
		}
		u := written(p)
		isAt(t, p, u, specimen.About(len(p.Of), len(p.Rows)), specimen.About(p.Terms, p.Nons))
	}
}

// P18.1: where a packed table may not be, for whatever is wrong, and wherever, nothing of it is told.
func TestAtMayNotBe(t *testing.T) {
	isMay(t, gaps(), true)
	for i, change := range []func(*api.Packed){
		func(p *api.Packed) { p.Terms = 5 },
		func(p *api.Packed) { p.Terms = 25 },
		func(p *api.Packed) { p.Nons = 4 },
		func(p *api.Packed) { p.Nons = 17 },
		func(p *api.Packed) { p.Of = p.Of[:3] },
		func(p *api.Packed) { p.To = p.To[:3] },
		func(p *api.Packed) { p.Of[3] = 4 },
		func(p *api.Packed) { p.To[3] = -1 },
		func(p *api.Packed) { p.Rows = append(p.Rows, make([][]api.Entry, 297)...) },
		func(p *api.Packed) { p.Gotos = append(p.Gotos, make([][]api.Edge, 297)...) },
		// In a row that no state has.
		func(p *api.Packed) { p.Rows[2][0].Cell = api.Cell{} },
		func(p *api.Packed) { p.Rows[2][0].Col = 7 },
		func(p *api.Packed) { p.Rows[2] = append(p.Rows[2], p.Rows[2][0]) },
		func(p *api.Packed) { p.Gotos[2][0].To = -1 },
		func(p *api.Packed) { p.Gotos[2][0].Sym = 5 },
		func(p *api.Packed) { p.Gotos[2] = append(p.Gotos[2], p.Gotos[2][0]) },
		// In one that states have.
		func(p *api.Packed) { p.Rows[1][0], p.Rows[1][1] = p.Rows[1][1], p.Rows[1][0] },
		func(p *api.Packed) { p.Rows[3][0].Col = -1 },
		func(p *api.Packed) { slices.Reverse(p.Gotos[0]) },
		func(p *api.Packed) { p.Gotos[1][0].Sym = -1 },
	} {
		p := gaps()
		if change(&p); may(p) {
			t.Error(i, p)
		}
		isMay(t, p, false)
		isAt(t, p, api.Table{}, specimen.About(len(p.Of)), specimen.About(p.Terms, p.Nons))
	}
}
