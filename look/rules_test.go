package look_test

import (
	"slices"
	"strconv"
	"testing"

	"gerund/api"
	"gerund/look"
	"gerund/specimen"
)

// withNumber are the rules of those lookaheads whose set, written as digits from the greatest number on, has a 1 at a number's place.
func withNumber(l []api.Look, n int) []int {
	var rules []int
	for _, x := range l {
		digits := []byte(strconv.FormatUint(uint64(x.Set), 2))
		slices.Reverse(digits)
		for at, digit := range digits {
			if at == n && digit == '1' {
				rules = append(rules, x.Rule)
			}
		}
	}
	return rules
}

// asked are numbers that sets may have, all about these, and far away.
func asked() []int {
	l := append(specimen.Far(), -64, -63, -33, -32, -31, -24, -2, -1, 63, 64, 65)
	for n := range 40 {
		l = append(l, n)
	}
	return l
}

// isAsked holds the rules of lookaheads, by each number, to what they must be.
func isAsked(t *testing.T, l []api.Look) {
	t.Helper()
	for _, n := range asked() {
		if rules, want := look.Rules(l, n), withNumber(l, n); !slices.Equal(rules, want) {
			t.Fatalf("%v: %d: %v, not %v", l, n, rules, want)
		}
	}
}

// P16.1: told lookaheads, such as a grammar may have, and such as none has, and what rules have a number.
func TestRules(t *testing.T) {
	const all = 1<<32 - 1
	for _, x := range []struct {
		looks []api.Look
		n     int
		want  []int
	}{
		// None at all; sets without anything.
		{nil, 0, nil},
		{[]api.Look{}, 3, nil},
		{[]api.Look{{}}, 0, nil},
		{[]api.Look{{Rule: 1}, {Rule: 2}}, 0, nil},
		{[]api.Look{{Rule: 1}, {Rule: 2, Set: 4}, {Rule: 3}}, 2, []int{2}},
		// In the first set, the last one, one within, several, all, and none.
		{[]api.Look{{Rule: 0, Set: 1}, {Rule: 1, Set: 2}, {Rule: 2, Set: 4}}, 0, []int{0}},
		{[]api.Look{{Rule: 0, Set: 1}, {Rule: 1, Set: 2}, {Rule: 2, Set: 4}}, 1, []int{1}},
		{[]api.Look{{Rule: 0, Set: 1}, {Rule: 1, Set: 2}, {Rule: 2, Set: 4}}, 2, []int{2}},
		{[]api.Look{{Rule: 0, Set: 1}, {Rule: 1, Set: 2}, {Rule: 2, Set: 4}}, 3, nil},
		{[]api.Look{{Rule: 4, Set: 7}, {Rule: 7, Set: 5}, {Rule: 9, Set: 6}}, 0, []int{4, 7}},
		{[]api.Look{{Rule: 4, Set: 7}, {Rule: 7, Set: 5}, {Rule: 9, Set: 6}}, 1, []int{4, 9}},
		{[]api.Look{{Rule: 4, Set: 7}, {Rule: 7, Set: 5}, {Rule: 9, Set: 6}}, 2, []int{4, 7, 9}},
		// As they stand: out of order, the same rule again, such as no grammar has.
		{[]api.Look{{Rule: 9, Set: 6}, {Rule: 4, Set: 7}, {Rule: 7, Set: 5}}, 2, []int{9, 4, 7}},
		{[]api.Look{{Rule: 3, Set: 6}, {Rule: 1, Set: 2}, {Rule: 3, Set: 1}, {Rule: 3, Set: 2}}, 1, []int{3, 1, 3}},
		{[]api.Look{{Rule: 5, Set: 2}, {Rule: 5, Set: 2}}, 1, []int{5, 5}},
		{[]api.Look{{Rule: -1, Set: 8}, {Rule: 1 << 40, Set: 8}, {Rule: -1 << 63, Set: 9}, {Rule: 40, Set: 8}}, 3, []int{-1, 1 << 40, -1 << 63, 40}},
		// The least and the greatest numbers that a set may have, and those about them.
		{[]api.Look{{Rule: 1, Set: all}, {Rule: 2, Set: 1}, {Rule: 3, Set: 1 << 31}}, 0, []int{1, 2}},
		{[]api.Look{{Rule: 1, Set: all}, {Rule: 2, Set: 1}, {Rule: 3, Set: 1 << 31}}, 31, []int{1, 3}},
		{[]api.Look{{Rule: 1, Set: all}, {Rule: 2, Set: all - 1}, {Rule: 3, Set: all >> 1}}, 0, []int{1, 3}},
		{[]api.Look{{Rule: 1, Set: all}, {Rule: 2, Set: all - 1}, {Rule: 3, Set: all >> 1}}, 31, []int{1, 2}},
		{[]api.Look{{Rule: 1, Set: all}, {Rule: 2, Set: 1}, {Rule: 3, Set: 1 << 31}}, 32, nil},
		{[]api.Look{{Rule: 1, Set: all}, {Rule: 2, Set: 1}, {Rule: 3, Set: 1 << 31}}, -1, nil},
	} {
		if rules := look.Rules(x.looks, x.n); !slices.Equal(rules, x.want) {
			t.Errorf("%v: %d: %v, not %v", x.looks, x.n, rules, x.want)
		}
		isAsked(t, x.looks)
	}
}

// P16.1: numbers far away, below 0, and above all that a set may have: no set has them, also one of all numbers.
func TestRulesFar(t *testing.T) {
	l := []api.Look{{Rule: 0, Set: 1<<32 - 1}, {Rule: 1, Set: 1}, {Rule: 2, Set: 1 << 31}, {Rule: 3, Set: 1 << 24}}
	for _, n := range asked() {
		if rules := look.Rules(l, n); len(rules) > 0 && (n < 0 || n > 31) || len(rules) == 0 && n >= 0 && n <= 31 {
			t.Errorf("%d: %v", n, rules)
		}
	}
}

// P16.1: of a grammar's lookaheads the terminals, the end, and the number just behind it, which none has.
func TestRulesOfStates(t *testing.T) {
	for terms := range 25 {
		g := listing(terms)
		l := isLooked(t, modelOf(g))
		for n := range terms + 1 {
			if rules := look.Rules(l[0], n); !slices.Equal(rules, []int{terms}) {
				t.Errorf("%d: %d: %v", terms, n, rules)
			}
		}
		if a, b := look.Rules(l[0], terms+1), look.Rules(l[0], -1); len(a)+len(b) > 0 {
			t.Errorf("%d: %v %v", terms, a, b)
		}
		for _, looks := range l {
			isAsked(t, looks)
		}
	}
}

// drawnLooks are up to ten, that no grammar has: with few numbers or many, some without any.
func drawnLooks(d *specimen.Drawer) []api.Look {
	var l []api.Look
	for range d.Below(11) {
		x := api.Look{Rule: d.Below(50) - 5}
		for range d.Below(1 + d.Below(60)) {
			x.Set |= 1 << d.Below(32)
		}
		l = append(l, x)
	}
	return l
}

// P16.1: drawn lookaheads, by each number: they stay as they are, their spare room too; and what is answered is new memory.
func TestRulesDrawn(t *testing.T) {
	d := specimen.Drawer(161)
	for range 3000 {
		l := drawnLooks(&d)
		full := append(slices.Clone(l), api.Look{Rule: 77, Set: 1<<32 - 1}, api.Look{Rule: 78, Set: 1})
		was := slices.Clone(full)
		isAsked(t, full[:len(l)])
		n := d.Below(32)
		a, b := look.Rules(full[:len(l)], n), look.Rules(full[:len(l)], n)
		if specimen.Spoil(a, 88); !slices.Equal(full, was) || !slices.Equal(b, withNumber(l, n)) {
			t.Fatal(full, was, n, b)
		}
	}
}

// P16.1: very many lookaheads.
func TestRulesMany(t *testing.T) {
	const most = 1 << 20
	l := make([]api.Look, most)
	for i := range l {
		l[i] = api.Look{Rule: i, Set: uint32(i)}
	}
	for _, n := range []int{0, 7, 19} {
		rules := look.Rules(l, n)
		if len(rules) != most/2 {
			t.Fatal(n, len(rules))
		}
		for i, rule := range rules {
			// Half of all numbers have the bit: those whose place among these, with a 1 put in there, is what they are.
			if low := i & (1<<n - 1); rule != (i-low)*2+1<<n+low {
				t.Fatal(n, i, rule)
			}
		}
	}
	if rules := look.Rules(l, 20); len(rules) != 0 {
		t.Fatal(len(rules))
	}
}
