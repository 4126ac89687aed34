package table_test

import (
	"maps"
	"slices"
	"strconv"
	"strings"
	"testing"

	"gerund/api"
	"gerund/specimen"
	"gerund/table"
)

// isBuilt holds a grammar's table, and its conflicts, to what they must be: the model's; and such as the chapter says.
func isBuilt(t *testing.T, m model) (api.Table, []api.Conflict) {
	t.Helper()
	u, c, e := table.Build(m.g)
	if e != m.err || !specimen.SameTables(u, m.table) || !slices.Equal(c, m.conflicts) {
		t.Fatalf("%v: %v %v %v, not %v %v %v", m.g, u, c, e, m.table, m.conflicts, m.err)
	}
	if e == api.OK {
		isEdged(t, m, u, c)
		isSingle(t, m, u, c)
		if !table.Right(m.g, u) {
			t.Fatalf("%v: %v: it may not be", m.g, u)
		}
	}
	return u, c
}

// isEdged holds a table to shifting just where an edge leads by a terminal, but for what conflicts tell, and to gotos that are just the edges by nonterminals; each of these is met somewhere.
func isEdged(t *testing.T, m model, u api.Table, c []api.Conflict) {
	t.Helper()
	// Where one comes to, by state and symbol.
	edges, told, met := map[[2]int]int{}, map[[2]int]int{}, map[int]bool{}
	for n, s := range m.states {
		for _, x := range s.Edges {
			edges[[2]int{n, x.Sym}] = x.To
		}
	}
	for _, x := range c {
		if x.Kind == api.ByReduce || x.Kind == api.ByNone {
			delete(edges, [2]int{x.State, x.Term})
		}
	}
	for n := range u.Actions {
		for term, x := range u.Actions[n] {
			if x.Kind == api.ActShift {
				told[[2]int{n, term}] = x.N
			}
		}
	}
	for n := range u.Gotos {
		for e, to := range u.Gotos[n] {
			if to != -1 {
				told[[2]int{n, -1 - e}], met[e] = to, true
			}
		}
	}
	if !maps.Equal(told, edges) || len(met) != len(m.g.Nons) {
		t.Fatalf("%v: %v: %v, not %v", m.g, u, told, edges)
	}
}

// isSingle holds each cell to having one thing of those that there may be, and none where there is none, or where conflicts tell of neither; the conflicts are one fewer than these things, in order, and each is settled as it is told.
func isSingle(t *testing.T, m model, u api.Table, c []api.Conflict) {
	t.Helper()
	at := 0
	for n := range m.states {
		for term := range len(m.g.Terms) + 1 {
			could, did := m.could(n, term), u.Actions[n][term]
			conflicts := c[at:min(len(c), at+max(0, len(could)-1))]
			neither := len(could) == 0
			for i, x := range conflicts {
				if x.State != n || x.Term != term || x.Kind != api.ByOrder && (i+1 < len(conflicts) || x.Kind != table.Settle(m.g, x.Rule, term)) {
					t.Fatalf("%v: state %d, %d: %v", m.g, n, term, c)
				}
				neither = neither || x.Kind == api.ByNone
			}
			if neither && did != (api.Cell{}) || !neither && !slices.Contains(could, did) {
				t.Fatalf("%v: state %d, %d: %v, of %v", m.g, n, term, did, could)
			}
			at += max(0, len(could)-1)
		}
	}
	if at != len(c) {
		t.Fatalf("%v: %d, not %d conflicts: %v", m.g, len(c), at, c)
	}
}

// isRefused holds a grammar to having no table, for a reason.
func isRefused(t *testing.T, g api.Grammar, want api.Errno) {
	t.Helper()
	if u, c, e := table.Build(g); len(u.Actions)+len(u.Gotos)+len(c) != 0 || e != want {
		t.Fatalf("%v: %v %v %v, not %v", g, u, c, e, want)
	}
}

// cellText is a cell as a text: s and the state, r and the rule, acc, or -.
func cellText(x api.Cell) string {
	switch x {
	case api.Cell{}:
		return "-"
	case api.Cell{Kind: api.ActAccept}:
		return "acc"
	}
	return []string{"?", "s", "r", "?"}[x.Kind] + strconv.Itoa(x.N)
}

// conflictText is a conflict as a text: the state, the terminal or $ for the end, how it was settled, the rule, and the other one, if there is one.
func conflictText(g api.Grammar, x api.Conflict) string {
	term := "$"
	if x.Term < len(g.Terms) {
		term = g.Terms[x.Term].Name
	}
	text := strconv.Itoa(x.State) + " " + term + " " + []string{"?", "reduce", "shift", "none", "default", "order"}[x.Kind] + " " + strconv.Itoa(x.Rule)
	if x.Other != -1 {
		text += " " + strconv.Itoa(x.Other)
	}
	return text
}

// lines are a table and conflicts as texts: of each state its cells, and behind a bar its gotos; then each of the conflicts.
func lines(g api.Grammar, u api.Table, c []api.Conflict) []string {
	var l []string
	for n := range u.Actions {
		var words []string
		for _, x := range u.Actions[n] {
			words = append(words, cellText(x))
		}
		words = append(words, "|")
		for _, to := range u.Gotos[n] {
			text := "-"
			if to != -1 {
				text = strconv.Itoa(to)
			}
			words = append(words, text)
		}
		l = append(l, strings.Join(words, " "))
	}
	for _, x := range c {
		l = append(l, conflictText(g, x))
	}
	return l
}

// isTold holds grammars' tables, and the model's, to what is told: a text for each state, and each conflict.
func isTold(t *testing.T, told map[string][]string) {
	t.Helper()
	answer := func(g api.Grammar) []string {
		u, c := isBuilt(t, modelOf(g))
		return lines(g, u, c)
	}
	specimen.IsTold(t, told, answer, func(_ api.Grammar, text string) string { return text })
}

// P17.1, P17.2: told tables without conflicts: cells with a shift, with a rule, with neither; accepting; rules without symbols, at the start and elsewhere; gotos of nonterminals that are met in several states, and states where none is.
func TestTold(t *testing.T) {
	isTold(t, map[string][]string{
		// The example of layers 15 and 16.
		"%% s : 'a' s | ;": {"s1 r1 | 2", "s1 r1 | 3", "- acc | -", "- r0 | -"},
		// No symbols; a terminal.
		"%% s : ;":     {"r0 | 1", "acc | -"},
		"%% s : 'a' ;": {"s1 - | 2", "- r0 | -", "- acc | -"},
		// The same rule ends in two states, beside another one in the second one; gotos of a in two states, of b in one.
		"%% s : 'x' a 'p' | 'y' a 'q' | 'y' b ; a : 'z' ; b : 'z' ;": {
			"s1 - s2 - - - | 3 - -",
			"- - - - s4 - | - 5 -",
			"- - - - s6 - | - 7 8",
			"- - - - - acc | - - -",
			"- r3 - - - - | - - -",
			"- s9 - - - - | - - -",
			"- - - r3 - r4 | - - -",
			"- - - s10 - - | - - -",
			"- - - - - r2 | - - -",
			"- - - - - r0 | - - -",
			"- - - - - r1 | - - -",
		},
		// Terminals that no rule has; a nonterminal of no symbols, which is met behind a terminal alone.
		"%token 'u' %left 'v' %% s : 'a' t ; t : ;": {"- - s1 - | 2 -", "- - - r1 | - 3", "- - - acc | - -", "- - - r0 | - -"},
		// A start that isn't the first nonterminal; it goes on where it may be accepted.
		"%start t %% s : t 'a' | 'b' ; t : s ;": {"- s1 - | 2 3", "r1 - r1 | - -", "r2 - r2 | - -", "s4 - acc | - -", "r0 - r0 | - -"},
		// A rule without symbols at the end, at the beginning, and between; of the same one, in several states.
		"%% s : 'a' n | n 'b' n 'c' ; n : ;": {"s1 r2 - - | 2 3", "- - - r2 | - 4", "- - - acc | - -", "- s5 - - | - -", "- - - r0 | - -", "- - r2 - | - 6", "- - s7 - | - -", "- - - r1 | - -"},
		// Less is reduced than what follows: r : l not at '=', though '=' follows r elsewhere.
		"%% s : l '=' r | r ; l : '*' r | 'i' ; r : l ;": {
			"- s1 s2 - | 3 4 5",
			"- s1 s2 - | - 6 7",
			"r3 - - r3 | - - -",
			"- - - acc | - - -",
			"s8 - - r4 | - - -",
			"- - - r1 | - - -",
			"r4 - - r4 | - - -",
			"r2 - - r2 | - - -",
			"- s1 s2 - | - 6 9",
			"- - - r0 | - - -",
		},
	})
}

// P17.1: told tables with conflicts: several rules; rules and a shift, or accepting; several in one cell, in several cells of a state, and in several states.
func TestToldConflicts(t *testing.T) {
	isTold(t, map[string][]string{
		// Accepting beside a rule; beside several, of which the first one counts.
		"%% s : s | 'a' ;":             {"s1 - | 2", "- r1 | -", "- acc | -", "2 $ default 0"},
		"%% s : s | t | 'x' ; t : s ;": {"s1 - | 2 3", "- r2 | - -", "- acc | - -", "- r1 | - -", "2 $ order 3 0", "2 $ default 0"},
		"%% s : 'x' | t ; t : s | s ;": {"s1 - | 2 3", "- r0 | - -", "- acc | - -", "- r1 | - -", "2 $ order 3 2", "2 $ default 2"},
		// Shifting beside a rule: with symbols, and without any, at the start and elsewhere.
		"%% s : s s | 'a' ;":             {"s1 - | 2", "r1 r1 | -", "s1 acc | 3", "s1 r0 | 3", "3 'a' default 0"},
		"%% s : n 'a' | 'a' ; n : ;":     {"s1 - | 2 3", "- r1 | - -", "- acc | - -", "s4 - | - -", "- r0 | - -", "0 'a' default 2"},
		"%% s : n s n 'a' | 'b' ; n : ;": {"- s1 - | 2 3", "r1 - r1 | - -", "- - acc | - -", "- s1 - | 4 3", "r2 - - | - 5", "s6 - - | - -", "r0 - r0 | - -", "0 'b' default 2", "3 'b' default 2"},
		"%% s : 'i' s | 'i' s 'e' s | 'x' ;": {
			"s1 - s2 - | 3", "s1 - s2 - | 4", "- r2 - r2 | -", "- - - acc | -", "- s5 - r0 | -", "s1 - s2 - | 6", "- r1 - r1 | -",
			"4 'e' default 0",
		},
		// Several rules: alike, without symbols, of several nonterminals.
		"%% s : 'a' | 'a' | | ;":                       {"s1 r2 | 2", "- r0 | -", "- acc | -", "0 $ order 3 2", "1 $ order 1 0"},
		"%% s : a | b | c ; a : 'x' ; b : 'x' ; c : ;": {"s1 r5 | 2 3 4 5", "- r3 | - - - -", "- acc | - - - -", "- r0 | - - - -", "- r1 | - - - -", "- r2 | - - - -", "1 $ order 4 3"},
		"%% s : c | b | a ; a : 'x' ; b : 'x' ; c : 'x' ;": {
			"s1 - | 2 3 4 5", "- r3 | - - - -", "- acc | - - - -", "- r2 | - - - -", "- r1 | - - - -", "- r0 | - - - -",
			"1 $ order 4 3", "1 $ order 5 3",
		},
	})
}

// P17.1: told tables whose conflicts precedence settles, in each way: of several rules the first one counts alone, though another one's level is another; the end has no level; rules without symbols.
func TestToldSettled(t *testing.T) {
	isTold(t, map[string][]string{
		"%left 'x' %% s : s %prec 'x' | 'x' ;": {"s1 - | 2", "- r1 | -", "- acc | -", "2 $ default 0"},
		"%left '-' %right '+' %% e : e '+' e | 'n' | e '+' e | e '-' e ;": {
			"- - s1 - | 2", "r1 r1 - r1 | -", "s3 s4 - acc | -", "- - s1 - | 5", "- - s1 - | 6", "r3 s4 - r3 | -", "r0 s4 - r0 | -",
			"5 '-' reduce 3", "5 '+' shift 3",
			"6 '-' order 2 0", "6 '-' reduce 0", "6 '+' order 2 0", "6 '+' shift 0", "6 $ order 2 0",
		},
		"%nonassoc '+' %% e : e '+' e | e e %prec '+' | 'n' ;": {
			"- s1 - | 2", "r2 r2 r2 | -", "s3 s1 acc | 4", "- s1 - | 5", "- s1 r1 | 4", "- s1 r0 | 4",
			"4 '+' none 1", "4 'n' default 1", "5 '+' none 0", "5 'n' default 0",
		},
		"%left 'a' %% s : n 'a' | 'a' ; n : %prec 'a' ;":  {"r2 - | 2 3", "- r1 | - -", "- acc | - -", "s4 - | - -", "- r0 | - -", "0 'a' reduce 2"},
		"%right 'a' %% s : n 'a' | 'a' ; n : %prec 'a' ;": {"s1 - | 2 3", "- r1 | - -", "- acc | - -", "s4 - | - -", "- r0 | - -", "0 'a' shift 2"},
		"%nonassoc 'a' %% s : m 'b' | n 'a' | 'a' | n 'b' ; n : %prec 'a' ; m : %prec 'a' ;": {
			"- r4 - | 2 3 4", "- - r2 | - - -", "- - acc | - - -", "s5 s6 - | - - -", "- s7 - | - - -", "- - r1 | - - -", "- - r3 | - - -", "- - r0 | - - -",
			"0 'a' none 4", "0 'b' order 5 4",
		},
	})
	for _, x := range []struct{ decls, a, b, cell, kind string }{
		{"%left 'l' %right 'x' %left 'h'", "%prec 'h'", "%prec 'l'", "r3", "reduce"},
		{"%left 'l' %right 'x' %left 'h'", "%prec 'l'", "%prec 'h'", "s5", "shift"},
		{"%left 'l' %nonassoc 'x' %left 'h'", "%prec 'x'", "%prec 'h'", "-", "none"},
		{"%left 'l' %nonassoc 'x' %left 'h'", "", "%prec 'h'", "s5", "default"},
		{"%token 'l' 'x' %left 'h'", "%prec 'h'", "%prec 'h'", "s5", "default"},
	} {
		text := x.decls + " %% s : a 'x' 'p' | b 'x' | 'y' 'x' 'z' ; a : 'y' " + x.a + " ; b : 'y' " + x.b + " ;"
		isTold(t, map[string][]string{text: {
			"- - - - s1 - - | 2 3 4",
			"- " + x.cell + " - - - - - | - - -",
			"- - - - - - acc | - - -", "- s6 - - - - - | - - -", "- s7 - - - - - | - - -", "- - - - - s8 - | - - -", "- - - s9 - - - | - - -", "- - - - - - r1 | - - -", "- - - - - - r2 | - - -", "- - - - - - r0 | - - -",
			"1 'x' order 4 3",
			"1 'x' " + x.kind + " 3",
		}})
	}
}

// P17.1: a grammar that may not be, in each way, has no table.
func TestMayNotBe(t *testing.T) {
	if u, _ := isBuilt(t, modelOf(specimen.Usable())); len(u.Actions) == 0 {
		t.Fatal(u)
	}
	for _, g := range specimen.Wrong() {
		isRefused(t, g, api.ErrArg)
	}
}

// P17.1: a grammar that may be and isn't reduced has none either; reduced, it has one, if its start is productive.
func TestNotReduced(t *testing.T) {
	l, reduced := specimen.Unreduced(t)
	for _, g := range l {
		isRefused(t, g, api.ErrArg)
	}
	for _, g := range reduced {
		if u, _ := isBuilt(t, modelOf(g)); len(u.Actions) == 0 {
			t.Error(g)
		}
	}
}

// P17.1: grammars of just 300 states have tables, of one more, and of very many more, none; where one isn't reduced either, that is told.
func TestMost(t *testing.T) {
	for states, g := range specimen.About300() {
		if states > 300 {
			isRefused(t, g, api.ErrMany)
		} else if u, _ := isBuilt(t, modelOf(g)); len(u.Actions) != states {
			t.Fatal(len(u.Actions), states)
		}
		isRefused(t, specimen.Useless(g), api.ErrArg)
	}
	isRefused(t, specimen.Remembering(specimen.Rising(16)), api.ErrMany)
}
