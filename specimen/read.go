package specimen

import (
	"gerund/api"
	"gerund/cfg"
)

// A Test is one that can be ended, as those of package testing: no package that isn't a test imports that.
type Test interface {
	Helper()
	Fatalf(format string, args ...any)
}

// Read is a text's grammar; a text that has none ends the test.
func Read(t Test, text string) api.Grammar {
	t.Helper()
	g, at, e := cfg.Read([]byte(text))
	if e != api.OK {
		t.Fatalf("%q: %v %v", text, at, e)
	}
	return g
}
