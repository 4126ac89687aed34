package yacc

import (
	"slices"

	"gerund/api"
)

// A reader reads tokens from the first one on.
type reader struct {
	left []api.Token // that aren't read yet
	end  complex128  // the place behind them
}

// A wrong is what ends the reading: where it is, and why.
type wrong struct {
	at complex128
	e  api.Errno
}

// ours is what ended the reading, if it is something wrong; of nothing it is none.
func ours(ended any) wrong {
	w, ok := ended.(wrong)
	if !ok && ended != nil {
		// Any other panic is a fault of the program, which is not to be hidden.
		panic(ended)
	}
	return w
}

// is: is the next token of one of these kinds?
func (r *reader) is(kinds ...int) bool {
	return len(r.left) > 0 && slices.Contains(kinds, r.left[0].Kind)
}

// take is the next token, which must be of one of these kinds.
func (r *reader) take(kinds ...int) api.Token {
	if len(r.left) == 0 {
		panic(wrong{r.end, api.ErrEnd})
	}
	t := r.left[0]
	if !r.is(kinds...) {
		panic(wrong{t.At, api.ErrForm})
	}
	r.left = r.left[1:]
	return t
}

// ref is the next token's, which must be of one of these kinds.
func (r *reader) ref(kinds ...int) api.Ref {
	t := r.take(kinds...)
	return api.Ref{Text: t.Text, At: t.At}
}

// refs are those of all names and literals that come next.
func (r *reader) refs() []api.Ref {
	var l []api.Ref
	for r.is(api.TokName, api.TokLiteral) {
		l = append(l, r.ref(api.TokName, api.TokLiteral))
	}
	return l
}
