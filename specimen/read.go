package specimen

import (
	"maps"
	"slices"

	"gerund/api"
	"gerund/cfg"
)

// A Test is one that can be ended, as those of package testing: no package that isn't a test imports that.
type Test interface {
	Helper()
	Fatalf(format string, args ...any)
}

// Read is a text's grammar; a text that has none ends the test.
func Read(t Test, text string) api.Grammar {
	t.Helper()
	g, at, e := cfg.Read([]byte(text))
	if e != api.OK {
		t.Fatalf("%q: %v %v", text, at, e)
	}
	return g
}

// IsTold holds what is answered of grammars, by their texts, to a text of each thing of it; the first grammar of which something else is answered ends the test.
func IsTold[T any](t Test, told map[string][]string, answer func(api.Grammar) []T, textOf func(api.Grammar, T) string) {
	t.Helper()
	for _, text := range slices.Sorted(maps.Keys(told)) {
		g := Read(t, text)
		var texts []string
		for _, x := range answer(g) {
			texts = append(texts, textOf(g, x))
		}
		if !slices.Equal(texts, told[text]) {
			t.Fatalf("%q: %q", text, texts)
		}
	}
}
