package pack_test

import (
	"math"
	"slices"
	"testing"

	"gerund/api"
	"gerund/pack"
	"gerund/specimen"
)

// isSame holds whether two packed tables are told to be the same, in both orders, to what must be.
func isSame(t *testing.T, a, b api.Packed, want bool) {
	t.Helper()
	if x, y := pack.Same(a, b), pack.Same(b, a); x != want || y != want {
		t.Fatalf("%v, %v: %v %v, not %v", a, b, x, y, want)
	}
}

// unlike are what makes the packed table with gaps another one: each of its parts, by one element, by a length, by an order.
func unlike() []func(*api.Packed) {
	return slices.Concat(unlikeSizes(), unlikeRows(), unlikeGotos())
}

// unlikeSizes are those of Terms, Nons, Of and To.
func unlikeSizes() []func(*api.Packed) {
	return []func(*api.Packed){
		func(p *api.Packed) { p.Terms++ },
		func(p *api.Packed) { p.Terms = -1 },
		func(p *api.Packed) { p.Terms = math.MinInt },
		func(p *api.Packed) { p.Nons-- },
		func(p *api.Packed) { p.Nons = 17 },
		func(p *api.Packed) { p.Terms, p.Nons = p.Nons, p.Terms },
		func(p *api.Packed) { p.Of[0] = 2 },
		func(p *api.Packed) { p.Of[3] = 0 },
		func(p *api.Packed) { p.Of[1] = -1 },
		func(p *api.Packed) { p.Of[0], p.Of[1] = p.Of[1], p.Of[0] },
		func(p *api.Packed) { p.Of = p.Of[:3] },
		func(p *api.Packed) { p.Of = p.Of[1:] },
		func(p *api.Packed) { p.Of = append(p.Of, 0) },
		func(p *api.Packed) { p.Of = nil },
		func(p *api.Packed) { p.To[0] = 2 },
		func(p *api.Packed) { p.To[3] = 1 },
		func(p *api.Packed) { p.To[1] = math.MaxInt },
		func(p *api.Packed) { p.To[2], p.To[3] = p.To[3], p.To[2] },
		func(p *api.Packed) { p.To = p.To[:3] },
		func(p *api.Packed) { p.To = p.To[1:] },
		func(p *api.Packed) { p.To = append(p.To, 0) },
		func(p *api.Packed) { p.To = nil },
		func(p *api.Packed) { p.Of, p.To = p.To, p.Of },
		func(p *api.Packed) { p.Of, p.To = append(p.Of, 1), append(p.To, 1) },
	}
}

// unlikeRows are those of the rows of Actions.
func unlikeRows() []func(*api.Packed) {
	return []func(*api.Packed){
		func(p *api.Packed) { p.Rows[1][0].Col = 2 },
		func(p *api.Packed) { p.Rows[1][2].Col = 6 },
		func(p *api.Packed) { p.Rows[1][0].Cell.Kind = 2 },
		func(p *api.Packed) { p.Rows[1][2].Cell.Kind = -3 },
		func(p *api.Packed) { p.Rows[1][0].Cell.N = 5 },
		func(p *api.Packed) { p.Rows[1][1].Cell.N = 7 },
		func(p *api.Packed) { p.Rows[3][0].Cell = api.Cell{} },
		func(p *api.Packed) { p.Rows[1][0], p.Rows[1][1] = p.Rows[1][1], p.Rows[1][0] },
		func(p *api.Packed) { p.Rows[1] = p.Rows[1][:2] },
		func(p *api.Packed) { p.Rows[1] = p.Rows[1][1:] },
		func(p *api.Packed) { p.Rows[1] = append(p.Rows[1], p.Rows[2][0]) },
		func(p *api.Packed) { p.Rows[0] = entries(0) },
		func(p *api.Packed) { p.Rows[0] = []api.Entry{{}} },
		func(p *api.Packed) { p.Rows[3] = nil },
		func(p *api.Packed) { p.Rows[2], p.Rows[3] = p.Rows[3], p.Rows[2] },
		func(p *api.Packed) { p.Rows[0], p.Rows[1] = p.Rows[1], p.Rows[0] },
		func(p *api.Packed) { p.Rows = p.Rows[:3] },
		func(p *api.Packed) { p.Rows = p.Rows[1:] },
		func(p *api.Packed) { p.Rows = append(p.Rows, nil) },
		func(p *api.Packed) { p.Rows = nil },
		// The same entries, in other rows.
		func(p *api.Packed) { p.Rows[0], p.Rows[1] = p.Rows[1][:1], p.Rows[1][1:] },
		func(p *api.Packed) { p.Rows[1], p.Rows[2] = append(p.Rows[1], p.Rows[2]...), nil },
	}
}

// unlikeGotos are those of the rows of Gotos.
func unlikeGotos() []func(*api.Packed) {
	return []func(*api.Packed){
		func(p *api.Packed) { p.Gotos[0][0].Sym = 0 },
		func(p *api.Packed) { p.Gotos[2][0].Sym = 5 },
		func(p *api.Packed) { p.Gotos[0][0].To = 1 },
		func(p *api.Packed) { p.Gotos[0][1].To = -1 },
		func(p *api.Packed) { p.Gotos[2][0].To = math.MinInt },
		func(p *api.Packed) { slices.Reverse(p.Gotos[0]) },
		func(p *api.Packed) { p.Gotos[0] = p.Gotos[0][:1] },
		func(p *api.Packed) { p.Gotos[0] = p.Gotos[0][1:] },
		func(p *api.Packed) { p.Gotos[0] = append(p.Gotos[0], api.Edge{Sym: 4}) },
		func(p *api.Packed) { p.Gotos[3] = edges(0) },
		func(p *api.Packed) { p.Gotos[1] = nil },
		func(p *api.Packed) { p.Gotos[0], p.Gotos[1] = p.Gotos[1], p.Gotos[0] },
		func(p *api.Packed) { p.Gotos[2], p.Gotos[3] = p.Gotos[3], p.Gotos[2] },
		func(p *api.Packed) { p.Gotos = p.Gotos[:3] },
		func(p *api.Packed) { p.Gotos = p.Gotos[1:] },
		func(p *api.Packed) { p.Gotos = append(p.Gotos, nil) },
		func(p *api.Packed) { p.Gotos = nil },
		// The same entries, in other rows.
		func(p *api.Packed) { p.Gotos[2], p.Gotos[3] = append(p.Gotos[2], p.Gotos[1]...), nil },
		func(p *api.Packed) { p.Gotos[0], p.Gotos[1] = p.Gotos[0][:1], append(p.Gotos[0][1:], p.Gotos[1]...) },
	}
}

// P18.1: packed tables that differ in each of their parts, by one element, by a length, by an order, and only in that, aren't the same; nor are any two of these.
func TestSame(t *testing.T) {
	isSame(t, gaps(), gaps(), true)
	l := []api.Packed{gaps()}
	for _, change := range unlike() {
		p := gaps()
		change(&p)
		l = append(l, p)
	}
	for i, a := range l {
		for k, b := range l {
			isSame(t, a, b, i == k)
		}
		isSame(t, a, copied(a), true)
	}
}

// P18.1: lists that hold nothing are the same, nil or empty; packed tables that may not be are told as any others.
func TestSameNothing(t *testing.T) {
	p := api.Packed{Rows: [][]api.Entry{}, Of: []int{}, Gotos: [][]api.Edge{}, To: []int{}}
	isSame(t, p, api.Packed{}, true)
	isSame(t, api.Packed{}, api.Packed{}, true)
	isSame(t, p, api.Packed{Rows: [][]api.Entry{nil}}, false)
	isSame(t, p, api.Packed{Gotos: [][]api.Edge{{}}}, false)
	isSame(t, api.Packed{Rows: [][]api.Entry{nil, {}}, Gotos: [][]api.Edge{{}, nil}}, api.Packed{Rows: [][]api.Entry{{}, nil}, Gotos: [][]api.Edge{{}, {}}}, true)
	isSame(t, api.Packed{Rows: [][]api.Entry{nil, nil}}, api.Packed{Rows: [][]api.Entry{nil}}, false)
	isSame(t, api.Packed{Terms: -9, Nons: math.MaxInt, Of: []int{-1}}, api.Packed{Terms: -9, Nons: math.MaxInt, Of: []int{-1}}, true)
	isSame(t, api.Packed{Terms: -9, Nons: math.MaxInt, Of: []int{-1}}, api.Packed{Terms: -9, Nons: math.MaxInt, To: []int{-1}}, false)
	isSame(t, gaps(), api.Packed{}, false)
}

// P18.1: drawn packed tables, and what they are with one thing changed, which may be nothing: they are the same, if their texts are.
func TestSameDrawn(t *testing.T) {
	d, oks := specimen.Drawer(183), map[bool]int{}
	p := drawnPacked(&d)
	for range 3000 {
		q := drawnPacked(&d)
		isSame(t, p, q, same(p, q))
		r := changed(&d, q)
		want := same(q, r)
		isSame(t, q, r, want)
		oks[want]++
		p = q
	}
	if oks[true] < 30 || oks[false] < 2000 {
		t.Error(oks)
	}
}

// P18.1: very many rows, and very long ones, that differ at the very end, or in nothing.
func TestSameMany(t *testing.T) {
	const many = 1 << 18
	made := func() api.Packed {
		return api.Packed{Rows: append(make([][]api.Entry, many), make([]api.Entry, many)), Of: make([]int, many), Gotos: append(make([][]api.Edge, many), make([]api.Edge, many)), To: make([]int, many)}
	}
	p := made()
	isSame(t, p, made(), true)
	for _, change := range []func(*api.Packed){
		func(p *api.Packed) { p.Rows[many][many-1].Cell.N = 1 },
		func(p *api.Packed) { p.Of[many-1] = 1 },
		func(p *api.Packed) { p.Gotos[many][many-1].To = 1 },
		func(p *api.Packed) { p.To[many-1] = 1 },
	} {
		q := made()
		change(&q)
		isSame(t, p, q, false)
		isMay(t, q, false)
	}
}
