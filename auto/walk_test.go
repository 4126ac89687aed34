package auto_test

import (
	"slices"
	"testing"

	"gerund/api"
	"gerund/auto"
	"gerund/specimen"
)

// isWalked holds what Walk answers to what it must, by the model.
func isWalked(t *testing.T, a []api.State, from int, syms []int) bool {
	t.Helper()
	to, ok := auto.Walk(a, from, syms)
	if want, is := firstOf(a).walk(len(a), from, syms); to != want || ok != is {
		t.Fatalf("%v: %d %v: %d %v, not %d %v", a, from, syms, to, ok, want, is)
	}
	return ok
}

// odd are states that no grammar has: edges out of order, with the same symbol, and to states that aren't there.
func odd() []api.State {
	return []api.State{
		{Edges: []api.Edge{{Sym: 5, To: 1}, {Sym: -9, To: 2}, {Sym: 5, To: 0}, {Sym: 0, To: 0}, {Sym: 99, To: 3}}},
		{Kernel: []api.Item{{Rule: 77, Dot: -7}}, Edges: []api.Edge{{Sym: -1, To: 4}, {Sym: -1, To: 0}, {Sym: 7, To: -1}, {Sym: 7, To: 2}, {Sym: 6, To: 0}}},
		{Edges: []api.Edge{{Sym: -1, To: 2}, {Sym: 1, To: 3}, {Sym: -1, To: 9}}},
		{},
	}
}

// P15.1: told walks over such states.
func TestWalk(t *testing.T) {
	for _, x := range []struct {
		from int
		syms []int
		to   int
		ok   bool
	}{
		// No symbols: the state itself, if it is there.
		{0, nil, 0, true},
		{2, []int{}, 2, true},
		{3, nil, 3, true},
		{4, nil, 0, false},
		{-1, nil, 0, false},
		// Of one symbol's edges the first one, wherever it leads.
		{0, []int{5}, 1, true},
		{0, []int{-9}, 2, true},
		{0, []int{0}, 0, true},
		{0, []int{99}, 3, true},
		{1, []int{-1}, 0, false},
		{1, []int{7}, 0, false},
		{1, []int{6}, 0, true},
		{2, []int{-1}, 2, true},
		// Several, one behind the other.
		{0, []int{5, 6}, 0, true},
		{0, []int{5, 6, 5, 6, 0, 0, -9, 1}, 3, true},
		{0, []int{-9, -1, -1, -1, 1}, 3, true},
		// A state that isn't there, at the last place, and ahead of it.
		{0, []int{5, -1}, 0, false},
		{0, []int{5, -1, 5}, 0, false},
		{0, []int{0, 5, 7}, 0, false},
		{1, []int{7, -1}, 0, false},
		// No such edge: at the first place, later, at the last one, out of a state without edges.
		{0, []int{8}, 0, false},
		{0, []int{-1, 5}, 0, false},
		{0, []int{5, 8, 6}, 0, false},
		{0, []int{5, 6, -1}, 0, false},
		{3, []int{0}, 0, false},
		{0, []int{99, 99}, 0, false},
		// A first state that isn't there, with symbols that others have.
		{-1, []int{5}, 0, false},
		{4, []int{5}, 0, false},
		{4, []int{}, 0, false},
	} {
		isWalked(t, odd(), x.from, x.syms)
		if to, ok := auto.Walk(odd(), x.from, x.syms); to != x.to || ok != x.ok {
			t.Errorf("%d %v: %d %v", x.from, x.syms, to, ok)
		}
	}
}

// P15.1: first states that aren't there, below 0, just as many as there are, and far away; of no states none is.
func TestNoState(t *testing.T) {
	for _, a := range [][]api.State{nil, {}, {{}}, {{Edges: []api.Edge{{Sym: 0, To: 0}}}}, odd()} {
		for _, from := range append(specimen.Far(), -3, -2, -1, len(a), len(a)+1, len(a)+2) {
			for _, syms := range [][]int{nil, {}, {0}, {-1}, {5}, {5, 6}, {99}} {
				if to, ok := auto.Walk(a, from, syms); ok || to != 0 {
					t.Errorf("%v: %d %v: %d", a, from, syms, to)
				}
			}
		}
		for _, far := range specimen.Far() {
			// A symbol is any number; so is what an edge leads to.
			b := append(slices.Clone(a), api.State{Edges: []api.Edge{{Sym: far, To: len(a)}, {Sym: 1, To: far}, {Sym: 1, To: len(a)}}})
			for _, syms := range [][]int{{far}, {far, far}, {1}, {far, 1}, {1, far}, {far, 1, far}} {
				if ok := isWalked(t, b, len(a), syms); ok == slices.Contains(syms, 1) {
					t.Errorf("%v: %v: %v", b, syms, ok)
				}
			}
		}
	}
}

// drawnStates are up to six, each with up to eight edges of few symbols, some of which lead nowhere.
func drawnStates(d *specimen.Drawer) []api.State {
	a := make([]api.State, d.Below(7))
	for n := range a {
		for range d.Below(9) {
			to := d.Below(len(a))
			if d.Below(8) == 0 {
				to = []int{-1, -2, len(a), len(a) + 1, 1 << 40, -1 << 40}[d.Below(6)]
			}
			a[n].Edges = append(a[n].Edges, api.Edge{Sym: d.Below(6) - 3, To: to})
		}
	}
	return a
}

// drawnSymbols are up to ten, most of which the states' edges have.
func drawnSymbols(d *specimen.Drawer, a []api.State, from int) []int {
	var l []int
	f := firstOf(a)
	for range d.Below(11) {
		sym := d.Below(7) - 3
		for range 12 {
			if _, ok := f[[2]int{from, sym}]; !ok {
				sym = d.Below(7) - 3
			}
		}
		l, from = append(l, sym), f[[2]int{from, sym}]
	}
	return l
}

// P15.1: drawn states that no grammar has, and drawn symbols, against a model: of each kind some.
func TestDrawnStates(t *testing.T) {
	d := specimen.Drawer(51)
	var walked, long, not int
	for range 20000 {
		a := drawnStates(&d)
		for from := -2; from < len(a)+2; from++ {
			syms := drawnSymbols(&d, a, from)
			switch ok := isWalked(t, a, from, syms); {
			case !ok:
				not++
			case len(syms) > 4:
				long++
			default:
				walked++
			}
		}
	}
	if walked < 10000 || long < 10000 || not < 10000 {
		t.Error(walked, long, not)
	}
}

// P15.1: a walk of very many symbols.
func TestLongWalk(t *testing.T) {
	a := make([]api.State, 7)
	for n := range a {
		a[n].Edges = []api.Edge{{Sym: 9, To: n}, {Sym: 3, To: (n + 1) % 7}, {Sym: 3, To: 0}}
	}
	for _, n := range []int{1 << 20, 1<<20 + 1, 1<<20 + 6} {
		syms := slices.Repeat([]int{3, 9}, n)
		if to, ok := auto.Walk(a, 2, syms); to != (2+n)%7 || !ok {
			t.Error(n, to, ok)
		}
		if to, ok := auto.Walk(a, 2, append(syms, 4)); to != 0 || ok {
			t.Error(n, to, ok)
		}
	}
}
