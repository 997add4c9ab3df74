package normal

import (
	"batten/api"
	"batten/env"
	"batten/reduce"
	"batten/term"
)

// maker makes forms in an environment, with what is left of fuel.
type maker struct {
	e    *env.Env
	left int
}

// form: a normal form; false, if the fuel goes out, or something is too great.
func (m *maker) form(t api.Term) (api.Term, bool) { return Join(m.e, t, m.opened) }

// opened: the head of a term's weak head, what that is made of, and what it is applied to.
func (m *maker) opened(t api.Term) (h api.Term, own, l []api.Term, is bool) {
	w, left, f := reduce.Head(m.e, t, m.left)
	if f != api.OK {
		return api.Term{}, nil, nil, false
	}
	m.left = left
	h, l = term.Spine(w)
	own, h.T = h.T, nil
	return h, own, l, true
}
