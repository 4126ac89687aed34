package yacc

import "gerund/api"

// source is that of all tokens.
func (r *reader) source() api.Source {
	var s api.Source
	for !r.is(api.TokMark) {
		s.Decls = append(s.Decls, r.decl())
	}
	r.take(api.TokMark)
	s.Prods = r.group(nil)
	for len(r.left) > 0 && !r.is(api.TokMark) {
		s.Prods = r.group(s.Prods)
	}
	r.tail()
	return s
}

// tail reads what is behind the last group.
func (r *reader) tail() {
	if r.is(api.TokMark) {
		r.take(api.TokMark)
	}
	if len(r.left) > 0 {
		// No kind may stand there.
		r.take()
	}
}

// decl is a declaration.
func (r *reader) decl() api.Decl {
	kind := r.take(api.TokToken, api.TokLeft, api.TokRight, api.TokNon, api.TokStart).Kind
	if kind == api.TokStart {
		return api.Decl{Kind: kind, Names: []api.Ref{r.ref(api.TokName)}}
	}
	first := r.ref(api.TokName, api.TokLiteral)
	return api.Decl{Kind: kind, Names: append([]api.Ref{first}, r.refs()...)}
}

// group is l, and behind it the rules of a group.
func (r *reader) group(l []api.Prod) []api.Prod {
	left := r.ref(api.TokName)
	r.take(api.TokColon)
alternative:
	l = append(l, r.rule(left))
	if r.take(api.TokBar, api.TokSemi).Kind == api.TokBar {
		goto alternative
	}
	return l
}

// rule is that of an alternative of a group.
func (r *reader) rule(left api.Ref) api.Prod {
	p := api.Prod{Left: left, Right: r.refs()}
	if r.is(api.TokPrec) {
		r.take(api.TokPrec)
		p.Prec = r.ref(api.TokName, api.TokLiteral)
	}
	return p
}
