package yacc

import (
	"testing"

	"gerund/api"
)

// P8.1: what ends the reading is told apart: what is wrong is an answer, any other panic goes on.
func TestOurs(t *testing.T) {
	if w := ours(nil); w != (wrong{}) {
		t.Error(w)
	}
	if w := ours(wrong{3 + 1i, api.ErrForm}); w != (wrong{3 + 1i, api.ErrForm}) {
		t.Error(w)
	}
	for _, x := range []any{"wrong", 3, api.ErrForm, &wrong{3, api.ErrForm}} {
		func() {
			defer func() {
				if y := recover(); y != x {
					t.Error(x, y)
				}
			}()
			ours(x)
			t.Error(x, "is ours")
		}()
	}
}
