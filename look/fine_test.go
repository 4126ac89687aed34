package look_test

import (
	"maps"
	"slices"
	"strconv"
	"strings"

	"gerund/api"
	"gerund/auto"
	"gerund/first"
	"gerund/set"
)

// aimed is an item, and the one terminal, or the end, that comes behind its rule.
type aimed struct {
	item api.Item
	next int
}

// A fine state has items with what comes behind them: a state falls apart into as many of these as there are ways to come to it that let something else follow.
type fine struct {
	state  int
	kernel map[aimed]bool
}

// text is a fine state as a text.
func (f fine) text() string {
	l := []string{strconv.Itoa(f.state)}
	for x := range f.kernel {
		l = append(l, strconv.Itoa(x.item.Rule)+"."+strconv.Itoa(x.item.Dot)+"."+strconv.Itoa(x.next))
	}
	slices.Sort(l[1:])
	return strings.Join(l, " ")
}

// A refiner goes through the fine states of a model's automaton, and knows what begins behind the nonterminal at an item's place.
type refiner struct {
	m      model
	behind map[aimed][]int
}

// begins is what begins there.
func (r refiner) begins(x aimed) []int {
	l, known := r.behind[x]
	if !known {
		l = set.Members(first.Of(r.m.g, r.m.right(x.item.Rule)[x.item.Dot+1:], 1<<x.next))
		r.behind[x] = l
	}
	return l
}

// closed is a kernel with the rules' beginnings that it brings.
func (r refiner) closed(kernel map[aimed]bool) map[aimed]bool {
	all, open := maps.Clone(kernel), slices.Collect(maps.Keys(kernel))
	for len(open) > 0 {
		x := open[len(open)-1]
		open = open[:len(open)-1]
		right := r.m.right(x.item.Rule)
		if x.item.Dot == len(right) || right[x.item.Dot] >= 0 {
			continue
		}
		for rule, other := range r.m.g.Rules {
			if -1-other.Left != right[x.item.Dot] {
				continue
			}
			for _, next := range r.begins(x) {
				if y := (aimed{api.Item{Rule: rule}, next}); !all[y] {
					all[y], open = true, append(open, y)
				}
			}
		}
	}
	return all
}

// together are the sets of all items of all states: what the fine states, of which there are at most so many, have of them together.
func (m model) together(most int) (map[spot]uint32, bool) {
	r, sets, seen := refiner{m, map[aimed][]int{}}, map[spot]uint32{}, map[string]bool{}
	open := []fine{{0, map[aimed]bool{{api.Item{Rule: -1}, len(m.g.Terms)}: true}}}
	for len(open) > 0 {
		f := open[len(open)-1]
		open = open[:len(open)-1]
		if seen[f.text()] {
			continue
		}
		if seen[f.text()] = true; len(seen) > most {
			return nil, false
		}
		moved := map[int]map[aimed]bool{}
		for x := range r.closed(f.kernel) {
			sets[spot{f.state, x.item}] |= 1 << x.next
			if sym, ok := auto.Next(m.g, x.item); ok {
				if moved[sym] == nil {
					moved[sym] = map[aimed]bool{}
				}
				moved[sym][aimed{api.Item{Rule: x.item.Rule, Dot: x.item.Dot + 1}, x.next}] = true
			}
		}
		for sym, kernel := range moved {
			to, _ := auto.Walk(m.states, f.state, []int{sym})
			open = append(open, fine{to, kernel})
		}
	}
	return sets, true
}
