package specimen

import (
	"slices"
	"strconv"
	"strings"

	"gerund/api"
	"gerund/cfg"
)

// Long is a name of so many bytes.
func Long(n int) string {
	return strings.Repeat("x", n)
}

// Numbered are texts with a number behind each, from 0 on.
func Numbered(text string, n int) []string {
	var l []string
	for i := range n {
		l = append(l, text+strconv.Itoa(i))
	}
	return l
}

// Termed are terminals without a level.
func Termed(names ...string) []api.Term {
	var l []api.Term
	for _, s := range names {
		l = append(l, api.Term{Name: s})
	}
	return l
}

// LastOf is the last terminal of symbols, or -1.
func LastOf(right []int) int {
	for _, sym := range slices.Backward(right) {
		if sym >= 0 {
			return sym
		}
	}
	return -1
}

// Rule is one of symbols, with the precedence that they give it.
func Rule(left int, right ...int) api.Rule {
	return api.Rule{Left: left, Right: right, Prec: LastOf(right)}
}

// NameOf is the name of a symbol that there is.
func NameOf(g api.Grammar, sym int) string {
	if sym < 0 {
		return g.Nons[-1-sym]
	}
	return g.Terms[sym].Name
}

// Copied is the same grammar, that shares nothing with g; what holds nothing is nil.
func Copied(g api.Grammar) api.Grammar {
	c := api.Grammar{Terms: append([]api.Term(nil), g.Terms...), Nons: append([]string(nil), g.Nons...), Start: g.Start}
	for _, r := range g.Rules {
		c.Rules = append(c.Rules, api.Rule{Left: r.Left, Right: append([]int(nil), r.Right...), Prec: r.Prec})
	}
	return c
}

// Spare is the same grammar, that shares nothing with g, and has something in the room behind each of its lists; and tells later whether all of it is as it was.
func Spare(g api.Grammar) (api.Grammar, func() bool) {
	full := Copied(g)
	full.Terms = append(full.Terms, api.Term{Name: "spare"})
	full.Nons = append(full.Nons, "spare")
	for i, r := range full.Rules {
		full.Rules[i].Right = append(r.Right, 55)
	}
	full.Rules = append(full.Rules, api.Rule{Left: 44})
	was := Copied(full)
	given := api.Grammar{Terms: full.Terms[:len(g.Terms)], Nons: full.Nons[:len(g.Nons)], Rules: full.Rules[:len(g.Rules)], Start: g.Start}
	for i, r := range given.Rules {
		given.Rules[i].Right = r.Right[:len(r.Right)-1]
	}
	return given, func() bool {
		now := Copied(full)
		for i, r := range given.Rules {
			now.Rules[i].Right = r.Right[:min(cap(r.Right), len(r.Right)+1)]
		}
		return cfg.Same(now, was)
	}
}
