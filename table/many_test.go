package table_test

import (
	"slices"
	"testing"

	"gerund/api"
	"gerund/cfg"
	"gerund/specimen"
	"gerund/table"
)

// priced is a grammar, some of whose rules have the precedence of another terminal.
func priced(d *specimen.Drawer, g api.Grammar) api.Grammar {
	g = specimen.Copied(g)
	for i := range g.Rules {
		if len(g.Terms) > 0 && d.Below(3) == 0 {
			g.Rules[i].Prec = d.Below(len(g.Terms))
		}
	}
	return g
}

// drawn are grammars of up to 16 nonterminals, most of them reduced: some of many states, some of up to 24 terminals, with levels, and with rules of other terminals' levels.
func drawn(seed, n int) []api.Grammar {
	d, l := specimen.Drawer(seed), specimen.Varied(seed, n)
	for i, g := range l {
		if i%3 > 0 {
			l[i] = priced(&d, g)
		}
	}
	return l
}

// P17.1, P17.2: drawn grammars, against the model: of each kind of conflict, and without any; several in a cell, in a state, and in states; many states; accepting beside rules.
func TestDrawn(t *testing.T) {
	errs, kinds := map[api.Errno]int{}, map[int]int{}
	var none, great, several, ends, late int
	for _, g := range drawn(17, 4000) {
		m := modelOf(g)
		u, c := isBuilt(t, m)
		errs[m.err]++
		if m.err != api.OK {
			continue
		}
		if len(c) == 0 {
			none++
		}
		if len(u.Actions) > 100 {
			great++
		}
		if g.Start > 0 {
			late++
		}
		for i, x := range c {
			kinds[x.Kind]++
			if i > 1 && x.Term == c[i-2].Term && x.State == c[i-2].State && x.Kind != api.ByOrder {
				several++
			}
			if x.Other == -1 && x.Term == len(g.Terms) {
				ends++
			}
		}
	}
	if errs[api.OK] < 2000 || errs[api.ErrArg] < 200 || errs[api.ErrMany] < 30 || none < 500 || great < 60 || several < 300 || ends < 300 || late < 300 {
		t.Error(errs, none, great, several, ends, late)
	}
	for kind := api.ByReduce; kind <= api.ByOrder; kind++ {
		if kinds[kind] < 500 {
			t.Error(kinds)
		}
	}
}

// kinds are grammars of all kinds: such as may be, and such as may not.
func kinds() []api.Grammar {
	l := append(specimen.Wrong(), specimen.Small(), specimen.Usable(), specimen.Remembering(specimen.Rising(4)), specimen.Remembering(specimen.Rising(16)))
	return append(l, drawn(33, 200)...)
}

// P17.1: grammars stay as they were, their spare room too, and are answered the same once more.
func TestLeftAsItWas(t *testing.T) {
	for _, g := range kinds() {
		given, asWas := specimen.Spare(g)
		m := modelOf(g)
		m.g = given
		isBuilt(t, m)
		isBuilt(t, m)
		for rule := range 3 {
			isAsked(t, given, rule, 0)
			isAsked(t, given, 0, rule)
		}
		isMay(t, given, m.table, m.err == api.OK)
		if !asWas() {
			t.Fatal(given, g)
		}
	}
}

// P17.1: tables stay as they were, their spare room too.
func TestTableLeftAsItWas(t *testing.T) {
	for _, g := range kinds() {
		m := modelOf(g)
		given, asWas := specimen.SpareTable(m.table)
		if isMay(t, g, given, m.err == api.OK); !asWas() {
			t.Fatal(g, given, m.table)
		}
	}
}

// P17.1: what is answered is new memory: who writes into a list of it changes neither what was handed in, nor another list, nor another answer.
func TestNewMemory(t *testing.T) {
	for _, g := range kinds() {
		m, was := modelOf(g), specimen.Copied(g)
		u, c := isBuilt(t, m)
		other, more := isBuilt(t, m)
		for n := range u.Actions {
			specimen.Spoil(u.Actions[n], api.Cell{Kind: 88, N: 88})
			u.Actions[n] = m.table.Actions[n]
			specimen.Spoil(u.Gotos[n], 88)
			u.Gotos[n] = m.table.Gotos[n]
			if !specimen.SameTables(u, m.table) {
				t.Fatal(was, n, u)
			}
		}
		specimen.Spoil(u.Actions, nil)
		specimen.Spoil(u.Gotos, nil)
		if specimen.Spoil(c, api.Conflict{State: 88}); !specimen.SameTables(other, m.table) || !slices.Equal(more, m.conflicts) || !cfg.Same(g, was) {
			t.Fatal(was, g)
		}
		isBuilt(t, m)
		if kind, again := table.Settle(g, 0, 0), table.Settle(was, 0, 0); kind != again {
			t.Fatal(g, kind, again)
		}
	}
}
