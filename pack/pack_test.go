package pack_test

import (
	"math"
	"slices"
	"strconv"
	"strings"
	"testing"

	"gerund/api"
	"gerund/pack"
	"gerund/specimen"
)

// isPacked holds a table, packed, to what it must be: the model's; it may be then, has each row once, those of states that are the same alone for both, and is as it was, unpacked.
func isPacked(t *testing.T, u api.Table) api.Packed {
	t.Helper()
	m := modelOf(u)
	p, e := pack.Pack(u)
	if e != m.err || !same(p, m.p) {
		t.Fatalf("%v: %v %v, not %v %v", u, p, e, m.p, m.err)
	}
	if e != api.OK {
		return p
	}
	isOnce(t, u.Actions, p.Rows, p.Of)
	isOnce(t, u.Gotos, p.Gotos, p.To)
	back, e := pack.Unpack(p)
	if !pack.Right(p) || !may(p) || e != api.OK || !specimen.SameTables(back, u) {
		t.Fatalf("%v: %v: %v %v", u, p, back, e)
	}
	return p
}

// isOnce holds packed rows to being different, and to standing for a state each, in order; two states have one row just if their own ones are the same.
func isOnce[T, E comparable](t *testing.T, rows [][]T, once [][]E, of []int) {
	t.Helper()
	came := 0
	for n, a := range rows {
		if of[n] > came || of[n] < 0 {
			t.Fatalf("%v: %v %v", rows, once, of)
		}
		came = max(came, of[n]+1)
		for k, b := range rows[:n] {
			if (of[n] == of[k]) != slices.Equal(a, b) {
				t.Fatalf("%v: %v %v: states %d, %d", rows, once, of, k, n)
			}
		}
	}
	for n, a := range once {
		if came != len(once) || slices.ContainsFunc(once[:n], func(b []E) bool { return slices.Equal(a, b) }) {
			t.Fatalf("%v: %v %v", rows, once, of)
		}
	}
}

// isTold holds each cell and each number of some states of a packed table to what stands in the table.
func isTold(t *testing.T, u api.Table, p api.Packed, states ...int) {
	t.Helper()
	for _, n := range states {
		for term, want := range u.Actions[n] {
			if got := pack.Action(p, n, term); got != want {
				t.Fatalf("%v: %v: state %d, %d: %v, not %v", u, p, n, term, got, want)
			}
		}
		for non, want := range u.Gotos[n] {
			if got := pack.Goto(p, n, non); got != want {
				t.Fatalf("%v: %v: state %d, %d: %v, not %v", u, p, n, non, got, want)
			}
		}
	}
}

// isRefused holds a table to not being packed.
func isRefused(t *testing.T, u api.Table) {
	t.Helper()
	if p, e := pack.Pack(u); e != api.ErrArg || !same(p, api.Packed{}) || modelOf(u).err != api.ErrArg {
		t.Fatalf("%v: %v %v", u, p, e)
	}
}

// numberOf is that of a text.
func numberOf(t *testing.T, text string) int {
	t.Helper()
	n, e := strconv.Atoi(text)
	if e != nil {
		t.Fatal(e)
	}
	return n
}

// tableOf is a table by its states' texts: of each the cells, kind and number, and behind a bar the numbers; - is a cell all 0, and the number -1.
func tableOf(t *testing.T, l []string) api.Table {
	t.Helper()
	u := api.Table{}
	for _, text := range l {
		var cells []api.Cell
		var numbers []int
		a, b, _ := strings.Cut(text, "|")
		for _, word := range strings.Fields(a) {
			x := api.Cell{}
			if kind, n, ok := strings.Cut(word, "."); ok {
				x = api.Cell{Kind: numberOf(t, kind), N: numberOf(t, n)}
			}
			cells = append(cells, x)
		}
		for _, word := range strings.Fields(b) {
			if word == "-" {
				word = "-1"
			}
			numbers = append(numbers, numberOf(t, word))
		}
		u.Actions, u.Gotos = append(u.Actions, cells), append(u.Gotos, numbers)
	}
	return u
}

// textOf is half of a packed table as a text: a size, the rows, and for each state the number of its row.
func textOf[E any](size int, rows [][]E, of []int, text func(E) string) string {
	l := []string{strconv.Itoa(size) + ":"}
	for _, row := range rows {
		var words []string
		for _, x := range row {
			words = append(words, text(x))
		}
		l = append(l, "["+strings.Join(words, " ")+"]")
	}
	l = append(l, "of")
	for _, n := range of {
		l = append(l, strconv.Itoa(n))
	}
	return strings.Join(l, " ")
}

// entryText is an entry of a row of Actions as a text: its column, kind and number.
func entryText(x api.Entry) string {
	return strconv.Itoa(x.Col) + "=" + strconv.Itoa(x.Cell.Kind) + "." + strconv.Itoa(x.Cell.N)
}

// edgeText is one of a row of Gotos as a text: its column and number.
func edgeText(x api.Edge) string {
	return strconv.Itoa(x.Sym) + "=" + strconv.Itoa(x.To)
}

// P18.1, P18.2: told tables: the example; one row; rows alike, next to each other and not, in both halves or in one alone; rows unlike in one thing; rows with nothing in them; cells all 0 but for one thing; no numbers; numbers below -1.
func TestTold(t *testing.T) {
	for _, x := range []struct {
		states         []string
		actions, gotos string
	}{
		{[]string{"1.1 - | 0", "1.1 - | 0"}, "1: [0=1.1] of 0 0", "1: [0=0] of 0 0"},
		{[]string{"1.2 - 3.0 | - 3", "- - - | - -", "1.2 - 3.0 | 0 -", "- 0.7 - | - 3"}, "2: [0=1.2 2=3.0] [] [1=0.7] of 0 1 0 2", "2: [1=3] [] [0=0] of 0 1 2 0"},
		// One state; nothing in it; as little as may be.
		{[]string{"1.0 2.1 3.0 | 4 - 0"}, "2: [0=1.0 1=2.1 2=3.0] of 0", "3: [0=4 2=0] of 0"},
		{[]string{"- - | - - -"}, "1: [] of 0", "3: [] of 0"},
		{[]string{"- |"}, "0: [] of 0", "0: [] of 0"},
		{[]string{"3.0 |", "- |", "3.0 |"}, "0: [0=3.0] [] of 0 1 0", "0: [] of 0 0 0"},
		// All alike, all different, alike by turns.
		{[]string{"- 1.5 | 2", "- 1.5 | 2", "- 1.5 | 2"}, "1: [1=1.5] of 0 0 0", "1: [0=2] of 0 0 0"},
		{[]string{"- 1.5 | 2", "- 1.6 | 3", "1.5 - | -"}, "1: [1=1.5] [1=1.6] [0=1.5] of 0 1 2", "1: [0=2] [0=3] [] of 0 1 2"},
		{[]string{"- - | -", "1.1 - | 1", "- - | -", "1.1 - | 1", "- - | -"}, "1: [] [0=1.1] of 0 1 0 1 0", "1: [] [0=1] of 0 1 0 1 0"},
		{[]string{"1.1 - | 1", "2.2 - | 2", "3.3 - | 3", "2.2 - | 2", "1.1 - | 1", "4.4 - | 4"}, "1: [0=1.1] [0=2.2] [0=3.3] [0=4.4] of 0 1 2 1 0 3", "1: [0=1] [0=2] [0=3] [0=4] of 0 1 2 1 0 3"},
		// Alike in Actions and not in Gotos, and the other way round, of the same states and of others.
		{[]string{"1.1 - | 1", "1.1 - | 2", "1.1 - | -"}, "1: [0=1.1] of 0 0 0", "1: [0=1] [0=2] [] of 0 1 2"},
		{[]string{"1.1 - | 1", "2.1 - | 1", "- - | 1"}, "1: [0=1.1] [0=2.1] [] of 0 1 2", "1: [0=1] of 0 0 0"},
		{[]string{"1.1 - | 1", "1.1 - | 2", "2.1 - | 2", "2.1 - | 1"}, "1: [0=1.1] [0=2.1] of 0 0 1 1", "1: [0=1] [0=2] of 0 1 1 0"},
		// Unlike in one cell's kind alone, in its number alone, in one number of Gotos, in where they stand.
		{[]string{"1.7 2.7 | 1 2", "1.7 3.7 | 1 3", "1.8 2.7 | 2 2", "1.7 2.8 | 2 1"}, "1: [0=1.7 1=2.7] [0=1.7 1=3.7] [0=1.8 1=2.7] [0=1.7 1=2.8] of 0 1 2 3", "2: [0=1 1=2] [0=1 1=3] [0=2 1=2] [0=2 1=1] of 0 1 2 3"},
		{[]string{"1.7 - | 1 -", "- 1.7 | - 1", "7.1 - | -1 1", "1.7 1.7 | 1 1"}, "1: [0=1.7] [1=1.7] [0=7.1] [0=1.7 1=1.7] of 0 1 2 3", "2: [0=1] [1=1] [0=1 1=1] of 0 1 1 2"},
		// All 0 but for the kind, or for the number.
		{[]string{"0.1 1.0 | 0", "0.-1 -1.0 | -2", "0.0 0.5 | -1"}, "1: [0=0.1 1=1.0] [0=0.-1 1=-1.0] [1=0.5] of 0 1 2", "1: [0=0] [0=-2] [] of 0 1 2"},
		// Numbers below -1, of -1, of 0; in cells they are as any other ones.
		{[]string{"1.-1 -1.-1 - | -2 -1 0", "1.-2 - 9.9 | 0 -2 -1", "0.-1 -1.0 -2.0 | -1 0 -2"}, "2: [0=1.-1 1=-1.-1] [0=1.-2 2=9.9] [0=0.-1 1=-1.0 2=-2.0] of 0 1 2", "3: [0=-2 2=0] [0=0 1=-2] [1=0 2=-2] of 0 1 2"},
	} {
		u := tableOf(t, x.states)
		p := isPacked(t, u)
		actions, gotos := textOf(p.Terms, p.Rows, p.Of, entryText), textOf(p.Nons, p.Gotos, p.To, edgeText)
		if actions != x.actions || gotos != x.gotos {
			t.Errorf("%q: %q %q", x.states, actions, gotos)
		}
		isTold(t, u, p, specimen.Rising(len(x.states))...)
	}
}

// P18.1: tables of no rows, of just 300, and of one more, and of others; of rows of Actions and of Gotos that are not equally many.
func TestStates(t *testing.T) {
	counts := []int{0, 1, 2, 3, 17, 150, 299, 300, 301, 302, 1000, 1 << 16}
	for _, size := range [][2]int{{0, 0}, {3, 2}, {24, 16}} {
		for _, actions := range counts {
			a := specimen.Blank(actions, size[0], size[1])
			for _, gotos := range append(counts, actions+1, max(0, actions-1)) {
				u := api.Table{Actions: a.Actions, Gotos: specimen.Blank(gotos, size[0], size[1]).Gotos}
				if actions == gotos && actions > 0 && actions <= 300 {
					if p := isPacked(t, u); len(p.Of) != actions || len(p.Rows) != 1 || len(p.Gotos) != 1 {
						t.Fatal(actions, p)
					}
				} else {
					isRefused(t, u)
				}
			}
		}
	}
	isRefused(t, api.Table{})
	isRefused(t, api.Table{Actions: [][]api.Cell{}, Gotos: [][]int{}})
}

// P18.1: no cells in a row, one, just 25 and one more; no numbers, just 16 and one more; and very many.
func TestColumns(t *testing.T) {
	for _, cells := range []int{0, 1, 2, 16, 17, 24, 25, 26, 27, 1 << 16} {
		for _, numbers := range []int{0, 1, 2, 15, 16, 17, 18, 25, 1 << 16} {
			for _, states := range []int{1, 2, 5} {
				u := specimen.Blank(states, cells-1, numbers)
				full := specimen.CopiedTable(u)
				for n := range states {
					for term := range cells {
						full.Actions[n][term] = api.Cell{Kind: 1 + n, N: term}
					}
					for non := range numbers {
						full.Gotos[n][non] = n + non
					}
				}
				if cells < 1 || cells > 25 || numbers > 16 {
					isRefused(t, u)
					isRefused(t, full)
					continue
				}
				if p := isPacked(t, u); p.Terms != cells-1 || p.Nons != numbers {
					t.Fatal(p)
				}
				isTold(t, full, isPacked(t, full), specimen.Rising(states)...)
			}
		}
	}
}

// P18.1: rows that are too long or too short, by one, by more and by very much, each alone, in the first state, within, and in the last one.
func TestUneven(t *testing.T) {
	for _, size := range [][2]int{{1, 0}, {1, 1}, {2, 1}, {24, 15}, {25, 16}, {25, 0}, {1, 16}} {
		for _, states := range []int{2, 3, 300} {
			for _, n := range []int{0, states / 2, states - 1} {
				for _, width := range []int{0, 1, size[0] - 1, size[0], size[0] + 1, 2 * size[0], 1 << 16} {
					u := specimen.Blank(states, size[0]-1, size[1])
					if u.Actions[n] = make([]api.Cell, width); width == size[0] {
						isPacked(t, u)
					} else {
						isRefused(t, u)
					}
				}
				for _, width := range []int{0, 1, max(0, size[1]-1), size[1], size[1] + 1, 2 * size[1], 1 << 16} {
					u := specimen.Blank(states, size[0]-1, size[1])
					if u.Gotos[n] = slices.Repeat([]int{-1}, width); width == size[1] {
						isPacked(t, u)
					} else {
						isRefused(t, u)
					}
				}
				u := specimen.Blank(states, size[0]-1, size[1])
				u.Actions[n] = nil
				isRefused(t, u)
			}
		}
	}
}

// P18.1: two rows that make up for each other: one is too long by one, another one too short.
func TestUnevenTogether(t *testing.T) {
	for _, at := range [][2]int{{0, 1}, {1, 0}, {0, 2}, {2, 1}} {
		u := specimen.Blank(3, 2, 2)
		u.Actions[at[0]], u.Actions[at[1]] = make([]api.Cell, 4), make([]api.Cell, 2)
		isRefused(t, u)
		u = specimen.Blank(3, 2, 2)
		u.Gotos[at[0]], u.Gotos[at[1]] = []int{-1, -1, -1}, []int{-1}
		isRefused(t, u)
	}
}

// extremes are numbers about those that mean something, and the largest and the smallest ones.
func extremes() []int {
	return append(specimen.Far(), -3, -2, -1, 0, 1, 2, 3, 4, 24, 25, 299, 300, 301)
}

// P18.1, P18.2: each number as a cell's kind, as its number, as both, and in Gotos, beside others: in the first column, within, and in the last one.
func TestNumbers(t *testing.T) {
	for _, n := range extremes() {
		for at := range 3 {
			u := specimen.Blank(5, 2, 3)
			u.Actions[1][at], u.Actions[2][at], u.Actions[3][at] = api.Cell{Kind: n}, api.Cell{N: n}, api.Cell{Kind: n, N: n}
			u.Gotos[2][at], u.Gotos[4][at] = n, n
			p := isPacked(t, u)
			isTold(t, u, p, specimen.Rising(5)...)
			if rows := len(p.Rows); n != 0 && rows != 4 || n == 0 && rows != 1 {
				t.Fatal(n, p)
			}
			if rows := len(p.Gotos); n != -1 && rows != 2 || n == -1 && rows != 1 {
				t.Fatal(n, p)
			}
		}
	}
	if l := extremes(); !slices.Contains(l, math.MaxInt) || !slices.Contains(l, math.MinInt) {
		t.Error(l)
	}
}

// pair is a table of two states that are alike, all of whose places have something.
func pair(terms, nons int) api.Table {
	u := specimen.Blank(2, terms, nons)
	for n := range 2 {
		for term := range u.Actions[n] {
			u.Actions[n][term] = api.Cell{Kind: 1 + term%3, N: term}
		}
		for non := range nons {
			u.Gotos[n][non] = non
		}
	}
	return u
}

// P18.2: two rows that are alike are one; with one cell's kind, one cell's number, or one number of Gotos changed, at each place, they are two, and the others stay one.
func TestOneUnlike(t *testing.T) {
	for _, size := range [][2]int{{0, 1}, {1, 2}, {24, 16}} {
		isRows := func(u api.Table, rows, gotos int) {
			t.Helper()
			if p := isPacked(t, u); len(p.Rows) != rows || len(p.Gotos) != gotos {
				t.Fatalf("%v: %v: not %d, %d", u, p, rows, gotos)
			}
		}
		isRows(pair(size[0], size[1]), 1, 1)
		for n := range 2 {
			for term := range size[0] + 1 {
				for _, change := range []func(*api.Cell){
					func(x *api.Cell) { x.Kind++ }, func(x *api.Cell) { x.N++ }, func(x *api.Cell) { x.N = -1 }, func(x *api.Cell) { x.Kind = math.MinInt }, func(x *api.Cell) { x.Kind, x.N = x.N+4, x.Kind }, func(x *api.Cell) { *x = api.Cell{} },
				} {
					u := pair(size[0], size[1])
					change(&u.Actions[n][term])
					isRows(u, 2, 1)
				}
			}
			for non := range size[1] {
				for _, to := range []int{-1, non + 1, -2, math.MaxInt} {
					u := pair(size[0], size[1])
					u.Gotos[n][non] = to
					isRows(u, 1, 2)
				}
			}
		}
	}
}

// P18.2: as many states as may be, with rows of which as many are different as is told, in the order in which they come, and in any: each number of rows from 1 to 300.
func TestManyRows(t *testing.T) {
	d := specimen.Drawer(181)
	for rows := 1; rows <= 300; rows += 1 + rows/9 {
		order := specimen.Rising(300)
		for range 2 {
			u := specimen.Blank(300, 2, 2)
			for n, at := range order {
				u.Actions[n][at%rows%3], u.Gotos[n][at%rows%2] = api.Cell{Kind: 1, N: at % rows}, at%rows/2
			}
			p := isPacked(t, u)
			if len(p.Rows) != rows || len(p.Gotos) != rows {
				t.Fatal(rows, p)
			}
			isTold(t, u, p, 0, 7, 299)
			order = d.Order(300)
		}
	}
	u := specimen.Blank(300, 0, 1)
	for n := range 300 {
		u.Actions[n][0], u.Gotos[n][0] = api.Cell{N: n}, n-1
	}
	if p := isPacked(t, u); len(p.Rows) != 300 || len(p.Gotos) != 300 || len(p.Rows[0]) != 0 || len(p.Gotos[0]) != 0 {
		t.Error(p)
	}
}
