package cycle_test

import (
	"slices"

	"gerund/api"
	"gerund/trim"
)

// model is what the calls answer of a grammar.
type model struct {
	steps   []uint32
	cycles  uint32
	endless bool
	order   []int
	err     api.Errno
}

// modelOf tells it of a grammar that may be.
func modelOf(g api.Grammar) model {
	m := model{steps: stepsOf(g)}
	use := useOf(g)
	for n := range g.Nons {
		if walked(m.steps, n)[n] {
			m.cycles |= 1 << n
			m.endless = m.endless || slices.Contains(use, n)
		}
	}
	if m.endless {
		m.err = api.ErrCycle
		return m
	}
	m.order = orderOf(m.steps, use)
	return m
}

// stepsOf strikes out of each Right, in all ways, what is nullable, till one productive nonterminal stands there alone: if that is so, all others are productive, too.
func stepsOf(g api.Grammar) []uint32 {
	nullable, productive := trim.Nullable(g), trim.Productive(g)
	steps := make([]uint32, len(g.Nons))
	for _, r := range g.Rules {
	next:
		for struck := range 1 << len(r.Right) {
			var left []int
			for i, sym := range r.Right {
				if struck>>i&1 == 0 {
					left = append(left, sym)
				} else if sym >= 0 || !nullable[-1-sym] {
					continue next
				}
			}
			if len(left) == 1 && left[0] < 0 && productive[-1-left[0]] {
				steps[r.Left] |= 1 << (-1 - left[0])
			}
		}
	}
	return steps
}

// walked are the nonterminals to which one comes, step by step.
func walked(steps []uint32, from int) map[int]bool {
	seen := map[int]bool{}
	ways := []int{from}
	for len(ways) > 0 {
		n := ways[len(ways)-1]
		ways = ways[:len(ways)-1]
		for to := range steps {
			if steps[n]>>to&1 == 1 && !seen[to] {
				seen[to] = true
				ways = append(ways, to)
			}
		}
	}
	return seen
}

// useOf are the nonterminals that are productive and reachable, rising.
func useOf(g api.Grammar) []int {
	productive, reachable := trim.Productive(g), trim.Reachable(g)
	var l []int
	for n := range g.Nons {
		if productive[n] && reachable[n] {
			l = append(l, n)
		}
	}
	return l
}

// orderOf puts behind those that are there the first one that may come next, again and again.
func orderOf(steps []uint32, use []int) []int {
	var l []int
	for range use {
		i := slices.IndexFunc(use, func(n int) bool { return !slices.Contains(l, n) && isNext(steps, l, n) })
		l = append(l, use[i])
	}
	return l
}

// isNext: do those that are there have all to which one comes at once?
func isNext(steps []uint32, there []int, n int) bool {
	for to := range steps {
		if steps[n]>>to&1 == 1 && !slices.Contains(there, to) {
			return false
		}
	}
	return true
}

// firstOrder is, of all orders of what is of use, by their numbers the first one in which each stands behind those to which it comes at once; false, if there is none.
func firstOrder(steps []uint32, use []int) ([]int, bool) {
	l := slices.Clone(use)
	for {
		behind := true
		for i, n := range l {
			behind = behind && isNext(steps, l[:i], n)
		}
		if behind {
			return l, true
		}
		if !permute(l) {
			return nil, false
		}
	}
}

// permute goes on to the next order of numbers; is there one?
func permute(l []int) bool {
	for i := len(l) - 2; i >= 0; i-- {
		if l[i] > l[i+1] {
			continue
		}
		j := len(l) - 1
		for l[j] < l[i] {
			j--
		}
		l[i], l[j] = l[j], l[i]
		slices.Reverse(l[i+1:])
		return true
	}
	return false
}
