package reduce

import (
	"slices"

	"batten/api"
	"batten/env"
	"batten/rules"
	"batten/subst"
	"batten/term"
)

// move is how one term is come to from another one.
type move uint8

const (
	rest   move = iota // there is no step: it is a weak head
	step               // by one
	within             // it is a part, of which the weak head is asked first
)

// steps are what is made in an environment. A term that is too great is told as a zero one, whichever move it is.
type steps struct {
	e      *env.Env
	behind []func(m api.Term) (api.Term, move) // what is to be done with the weak head of a part, the innermost one's last
}

// next: what is come to from a term.
func (s *steps) next(t api.Term) (api.Term, move) {
	h, l := term.Spine(t)
	switch {
	case h.K == api.Lam && len(l) > 0:
		return put(h.T[1], l[0], l[1:]), step
	case h.K == api.Let:
		return put(h.T[2], h.T[1], l), step
	case h.K == api.Const:
		return s.named(t, h, l)
	case h.K == api.Proj:
		return s.field(h, l)
	}
	return t, rest
}

// back: what is come to from the weak head of the innermost part.
func (s *steps) back(m api.Term) (api.Term, move) {
	last := len(s.behind) - 1
	do := s.behind[last]
	s.behind[last] = nil // what it holds is not needed any more
	s.behind = s.behind[:last]
	return do(m)
}

// named: from a Const h, applied to l, that is t. Only what may have a rule is asked for it, as each question goes through all of t.
func (s *steps) named(t, h api.Term, l []api.Term) (api.Term, move) {
	switch x, _ := s.e.Find(h.S); x.Kind {
	case api.IsDef:
		if u, f := rules.Delta(s.e, t); f != api.ErrNone {
			return u, step
		}
	case api.IsRec:
		if at, is := rules.Major(s.e, t); is {
			s.behind = append(s.behind, s.recursor(t, h, l, at))
			return l[at], within
		}
	}
	return t, rest
}

// recursor: what is to be done with the weak head of the argument at which h looks.
func (s *steps) recursor(t, h api.Term, l []api.Term, at int) func(m api.Term) (api.Term, move) {
	return func(m api.Term) (api.Term, move) {
		if u, f := rules.Iota(s.e, t, m); f != api.ErrNone {
			return u, step
		}
		l := slices.Clone(l)
		l[at] = m
		return term.Apply(h, l...), rest
	}
}

// field: from a Proj h, applied to l.
func (s *steps) field(h api.Term, l []api.Term) (api.Term, move) {
	s.behind = append(s.behind, func(m api.Term) (api.Term, move) {
		if u, is := rules.Field(s.e, h.S, h.N, m); is {
			return term.Apply(u, l...), step
		}
		return term.Apply(api.Term{K: api.Proj, N: h.N, S: h.S, T: []api.Term{m}}, l...), rest
	})
	return h.T[0], within
}

// put a term in the place of the variable of a body, and apply that to l. (The zero term of an error stays one.)
func put(body, by api.Term, l []api.Term) api.Term {
	b, _ := subst.Inst(body, by)
	return term.Apply(b, l...)
}
