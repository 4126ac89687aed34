package table_test

import (
	"slices"
	"strconv"
	"testing"

	"gerund/api"
	"gerund/cfg"
	"gerund/specimen"
	"gerund/table"
)

// calculus is expressions: operators between two of them, each with a level, and one ahead of one, whose rule has a level by itself alone; by the terminals the rules.
type calculus struct {
	g                        api.Grammar
	between                  map[int]int
	ahead, open, close, name int
}

// The rules ahead of those of the operators.
const (
	nameRule = iota
	openRule
	aheadRule
	firstRule
)

// drawnCalculus is one of up to six operators on up to four levels; the operator ahead is one of them, or another one.
func drawnCalculus(t *testing.T, d *specimen.Drawer) calculus {
	t.Helper()
	levels, between := 2+d.Below(4), map[int]string{}
	text, unary := "", d.Below(levels)
	var rules string
	for level := range levels {
		text += []string{"%left", "%right", "%nonassoc"}[d.Below(3)]
		if level == unary {
			text += " 'u'\n"
			continue
		}
		for range 1 + d.Below(2) {
			op := "'" + strconv.Itoa(len(between)) + "'"
			between[len(between)] = op
			text, rules = text+" "+op, rules+" | e "+op+" e"
		}
		text += "\n"
	}
	minus := []string{"'-'", "'0'"}[d.Below(2)]
	c := calculus{g: specimen.Read(t, text+"%% e : 'n' | '(' e ')' | "+minus+" e %prec 'u'"+rules+" ;"), between: map[int]int{}}
	term := func(name string) int {
		n, ok := cfg.Find(c.g, name)
		if !ok {
			t.Fatal(c.g, name)
		}
		return n
	}
	c.ahead, c.open, c.close, c.name = term(minus), term("'('"), term("')'"), term("'n'")
	for i, op := range between {
		c.between[term(op)] = firstRule + i
	}
	return c
}

// expression is a drawn one behind other terminals, of at most so many more or some more than that.
func (c calculus) expression(d *specimen.Drawer, l []int, most int) []int {
	kind := d.Below(8)
	if most < 2 {
		kind = 7
	}
	switch kind {
	case 0:
		return append(c.expression(d, append(l, c.open), most-2), c.close)
	case 1, 2:
		return c.expression(d, append(l, c.ahead), most-1)
	case 3, 4, 5, 6:
		l = c.expression(d, l, most/2)
		for op := range len(c.g.Terms) {
			if _, ok := c.between[op]; ok && d.Below(3) == 0 {
				return c.expression(d, append(l, op), most/2)
			}
		}
		return l
	}
	return append(l, c.name)
}

// A climber reads an expression from the left on, and knows at each place the least level that may go on.
type climber struct {
	calculus
	word  []int
	at    int
	rules []int
}

// take: does that terminal come? It is passed.
func (c *climber) take(term int) bool {
	if c.at == len(c.word) || c.word[c.at] != term {
		return false
	}
	c.at++
	return true
}

// operator is the one that comes, of one level at least.
func (c *climber) operator(least int) (int, bool) {
	if c.at == len(c.word) {
		return 0, false
	}
	op := c.word[c.at]
	_, ok := c.between[op]
	return op, ok && c.g.Terms[op].Level >= least
}

// begin reads what has no operator between.
func (c *climber) begin() bool {
	switch {
	case c.take(c.name):
		c.rules = append(c.rules, nameRule)
		return true
	case c.take(c.open):
		ok := c.climb(1) && c.take(c.close)
		c.rules = append(c.rules, openRule)
		return ok
	case c.take(c.ahead):
		// No operator between has the level of that rule.
		ok := c.climb(c.g.Terms[c.g.Rules[aheadRule].Prec].Level + 1)
		c.rules = append(c.rules, aheadRule)
		return ok
	}
	return false
}

// climb reads what operators of one level at least hold together.
func (c *climber) climb(least int) bool {
	if !c.begin() {
		return false
	}
	for {
		op, ok := c.operator(least)
		if !ok {
			return true
		}
		c.at++
		x := c.g.Terms[op]
		to := x.Level + 1
		if x.Assoc == api.AssocRight {
			to = x.Level
		}
		if !c.climb(to) {
			return false
		}
		c.rules = append(c.rules, c.between[op])
		if next, ok := c.operator(x.Level); ok && x.Assoc == api.AssocNon && c.g.Terms[next].Level == x.Level {
			return false
		}
	}
}

// P17.1: expressions are parsed as the levels of their operators hold them together, to the left, to the right, or not at all; and refused where operators that don't associate stand beside one another.
func TestOperators(t *testing.T) {
	d, oks := specimen.Drawer(177), map[bool]int{}
	for range 300 {
		c := drawnCalculus(t, &d)
		u, conflicts, e := table.Build(c.g)
		if e != api.OK || len(conflicts) == 0 {
			t.Fatal(c.g, conflicts, e)
		}
		for range 40 {
			word := c.expression(&d, nil, 1+d.Below(24))
			if d.Below(8) == 0 {
				word = slices.Delete(word, d.Below(len(word)), len(word))
			}
			by := climber{calculus: c, word: word}
			want := by.climb(1) && by.at == len(word)
			rules, ok := parse(t, c.g, u, word, 500)
			if ok != want || ok && !slices.Equal(rules, by.rules) {
				t.Fatalf("%v: %v: %v %v, not %v %v", c.g, word, rules, ok, by.rules, want)
			}
			oks[ok]++
		}
	}
	if oks[true] < 3000 || oks[false] < 1000 {
		t.Error(oks)
	}
}
