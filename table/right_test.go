package table_test

import (
	"slices"
	"testing"

	"gerund/api"
	"gerund/cfg"
	"gerund/specimen"
	"gerund/table"
)

// blank is a table of so many states, in which nothing is done, of the size that a grammar's has.
func blank(g api.Grammar, states int) api.Table {
	return specimen.Blank(states, len(g.Terms), len(g.Nons))
}

// may: may a table be one of a grammar? All cells, and all numbers, that may stand in it are put down first.
func may(g api.Grammar, u api.Table) bool {
	states := len(u.Actions)
	if !cfg.Right(g) || states == 0 || states > 300 || len(u.Gotos) != states {
		return false
	}
	cells, tos := map[api.Cell]bool{{}: true, {Kind: api.ActAccept}: true}, map[int]bool{-1: true}
	for n := range states {
		cells[api.Cell{Kind: api.ActShift, N: n}], tos[n] = true, true
	}
	for rule := range g.Rules {
		cells[api.Cell{Kind: api.ActReduce, N: rule}] = true
	}
	for _, row := range u.Actions {
		if len(row) != len(g.Terms)+1 || slices.ContainsFunc(row, func(x api.Cell) bool { return !cells[x] }) {
			return false
		}
	}
	for _, row := range u.Gotos {
		if len(row) != len(g.Nons) || slices.ContainsFunc(row, func(to int) bool { return !tos[to] }) {
			return false
		}
	}
	return true
}

// isMay holds what is told of a table to what must be, which is so too by the chapter's words.
func isMay(t *testing.T, g api.Grammar, u api.Table, want bool) {
	t.Helper()
	if got := table.Right(g, u); got != want || may(g, u) != want {
		t.Fatalf("%v: %v: %v, not %v", g, u, got, want)
	}
}

// sizes are grammars of few and of many terminals, nonterminals and rules.
func sizes() []api.Grammar {
	d := specimen.Drawer(17)
	return []api.Grammar{specimen.Small(), specimen.Usable(), d.Grammar(0, 1, 1, 0), d.Grammar(24, 16, 40, 6), d.Grammar(0, 16, 16, 2), d.Grammar(24, 1, 40, 6), d.Grammar(3, 2, 5, 3)}
}

// P17.1: tables of no states, of just 300 and of one more, and of others; of rows of Actions and of Gotos that are not equally many.
func TestRightStates(t *testing.T) {
	counts := []int{0, 1, 2, 3, 17, 150, 299, 300, 301, 302, 1000, 1 << 16}
	for _, g := range sizes() {
		for _, actions := range counts {
			a := blank(g, actions)
			for _, gotos := range append(counts, actions+1, max(0, actions-1)) {
				b := blank(g, gotos)
				isMay(t, g, api.Table{Actions: a.Actions, Gotos: b.Gotos}, actions == gotos && actions > 0 && actions <= 300)
			}
		}
		isMay(t, g, api.Table{}, false)
		isMay(t, g, api.Table{Actions: [][]api.Cell{}, Gotos: [][]int{}}, false)
	}
}

// P17.1: rows that are too long or too short, by one, by more and by very much, each alone, in the first state, within, and in the last one.
func TestRightRows(t *testing.T) {
	for _, g := range sizes() {
		for _, states := range []int{1, 2, 3, 300} {
			for _, n := range []int{0, states / 2, states - 1} {
				for _, width := range []int{0, 1, 2, len(g.Terms), len(g.Terms) + 1, len(g.Terms) + 2, 2*len(g.Terms) + 2, 1 << 16} {
					u := blank(g, states)
					u.Actions[n] = make([]api.Cell, width)
					isMay(t, g, u, width == len(g.Terms)+1)
				}
				for _, width := range []int{0, 1, 2, len(g.Nons) - 1, len(g.Nons), len(g.Nons) + 1, 2 * len(g.Nons), 1 << 16} {
					u := blank(g, states)
					u.Gotos[n] = slices.Repeat([]int{-1}, width)
					isMay(t, g, u, width == len(g.Nons))
				}
				u := blank(g, states)
				u.Actions[n] = nil
				isMay(t, g, u, false)
				u = blank(g, states)
				u.Gotos[n] = nil
				isMay(t, g, u, false)
			}
		}
		// All rows are too long, or too short, alike.
		u, more := blank(g, 3), g
		more.Terms, more.Nons = append(more.Terms, api.Term{}), append(more.Nons, "")
		isMay(t, g, api.Table{Actions: u.Actions, Gotos: blank(more, 3).Gotos}, false)
		isMay(t, g, api.Table{Actions: blank(more, 3).Actions, Gotos: u.Gotos}, false)
	}
}

// P17.1: each kind of action, and kinds that there are none of, with each number that may stand with it, and with those about these: in the first cell, within, and in the last one, of the first state and of the last one.
func TestRightCells(t *testing.T) {
	for _, g := range sizes() {
		rules := len(g.Rules)
		for _, states := range []int{1, 2, 5, rules, rules + 1, 300} {
			u := blank(g, states)
			for _, at := range [][2]int{{0, 0}, {0, len(g.Terms)}, {states / 2, len(g.Terms) / 2}, {states - 1, 0}, {states - 1, len(g.Terms)}} {
				x := &u.Actions[at[0]][at[1]]
				for _, n := range specimen.About(states, rules) {
					for kind := -2; kind < 7; kind++ {
						*x = api.Cell{Kind: kind, N: n}
						want := kind == api.ActNone && n == 0 || kind == api.ActShift && n >= 0 && n < states || kind == api.ActReduce && n >= 0 && n < rules || kind == api.ActAccept && n == 0
						isMay(t, g, u, want)
					}
				}
				for _, kind := range specimen.Far() {
					*x = api.Cell{Kind: kind}
					isMay(t, g, u, false)
				}
				*x = api.Cell{}
				isMay(t, g, u, true)
			}
		}
	}
}

// P17.1: gotos of -1, of below, of the last state, of one more, and of others: in the first place and in the last one, of the first state and of the last one.
func TestRightGotos(t *testing.T) {
	for _, g := range sizes() {
		for _, states := range []int{1, 2, 5, 40, 41, 299, 300} {
			u := blank(g, states)
			for _, at := range [][2]int{{0, 0}, {0, len(g.Nons) - 1}, {states / 2, len(g.Nons) / 2}, {states - 1, 0}, {states - 1, len(g.Nons) - 1}} {
				x := &u.Gotos[at[0]][at[1]]
				for _, to := range specimen.About(states, len(g.Rules)) {
					*x = to
					isMay(t, g, u, to >= -1 && to < states)
				}
				*x = -1
			}
		}
	}
}

// P17.1: tables of other grammars: one may be, if there are as many terminals and nonterminals, and rules enough.
func TestRightOthers(t *testing.T) {
	var l []api.Grammar
	for _, text := range []string{
		"%% s : 'a' s | ;", "%% s : s 'b' | ;", "%% s : 'a' s | 'a' | ;", "%% s : ;", "%% s : 'a' | 'b' s ;", "%% s : 'a' t ; t : s | ;", "%left 'u' %% s : 'a' t ; t : ;",
	} {
		l = append(l, specimen.Read(t, text))
	}
	right := 0
	for _, g := range append(l, specimen.Varied(172, 60)...) {
		u, _, e := table.Build(g)
		if e != api.OK {
			continue
		}
		for _, h := range l {
			want := len(h.Terms) == len(g.Terms) && len(h.Nons) == len(g.Nons)
			for _, row := range u.Actions {
				for _, x := range row {
					want = want && (x.Kind != api.ActReduce || x.N < len(h.Rules))
				}
			}
			if isMay(t, h, u, want); want {
				right++
			}
		}
	}
	if right < 2*len(l) {
		t.Error(right)
	}
}

// P17.1: of a grammar that may not be, in each way, no table may be: whatever its size.
func TestRightMayNotBe(t *testing.T) {
	u, _, _ := table.Build(specimen.Usable())
	isMay(t, specimen.Usable(), u, true)
	for _, g := range specimen.Wrong() {
		for _, states := range []int{0, 1, 2, 300} {
			isMay(t, g, blank(g, states), false)
		}
		isMay(t, g, u, false)
	}
}

// P17.1: of a grammar that may be, and has no table of its own, tables may be all the same.
func TestRightWithoutTable(t *testing.T) {
	l, _ := specimen.Unreduced(t)
	for _, g := range append(l, specimen.Remembering(specimen.Rising(16))) {
		if _, _, e := table.Build(g); e == api.OK {
			t.Error(g)
		}
		u := blank(g, 3)
		u.Actions[1][0], u.Gotos[2][0] = api.Cell{Kind: api.ActReduce, N: len(g.Rules) - 1}, 2
		isMay(t, g, u, true)
	}
}

// changed is a table with one thing changed.
func changed(d *specimen.Drawer, g api.Grammar, u api.Table) api.Table {
	u = specimen.CopiedTable(u)
	n := d.Below(len(u.Actions))
	number := func() int { return d.Below(len(u.Actions)+12) - 6 }
	switch d.Below(8) {
	case 0:
		u.Actions[n] = append(u.Actions[n], api.Cell{})
	case 1:
		u.Gotos[n] = u.Gotos[n][:d.Below(len(g.Nons)+1)]
	case 2:
		u.Actions = append(u.Actions, u.Actions[n])
	case 3:
		u.Actions, u.Gotos = append(u.Actions, u.Actions[n]), append(u.Gotos, u.Gotos[n])
	case 4, 5:
		u.Gotos[n][d.Below(len(g.Nons))] = number()
	default:
		u.Actions[n][d.Below(len(g.Terms)+1)] = api.Cell{Kind: d.Below(6) - 1, N: []int{0, number(), d.Below(len(g.Rules)+4) - 2}[d.Below(3)]}
	}
	return u
}

// P17.1, P17.2: tables that were built may be; with one thing changed and another one some still may, and some not. They stay as they were.
func TestRightDrawn(t *testing.T) {
	d, counts := specimen.Drawer(173), map[bool]int{}
	for _, g := range specimen.Varied(174, 600) {
		u, _, e := table.Build(g)
		if e != api.OK {
			continue
		}
		isMay(t, g, u, true)
		for range 10 {
			x := changed(&d, g, u)
			if d.Below(3) == 0 && may(g, x) {
				x = changed(&d, g, x)
			}
			want := may(g, x)
			counts[want]++
			given, was := specimen.Copied(g), specimen.CopiedTable(x)
			if isMay(t, g, x, want); !specimen.SameTables(x, was) || !cfg.Same(g, given) {
				t.Fatal(g, x, was)
			}
		}
	}
	if counts[true] < 500 || counts[false] < 1000 {
		t.Error(counts)
	}
}
