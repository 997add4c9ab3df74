package rules

import (
	"slices"

	"batten/api"
	"batten/term"
)

// spine is a term's head, and how many arguments it has, of which cut tells those from one place to ahead of another one.
type spine struct {
	head api.Term
	args int
	cut  func(from, to int) []api.Term
}

// spineOf: of a term that may not be a head of no kind, and no arguments.
func spineOf(t api.Term) spine {
	head, l := term.Spine(t)
	return spine{head, len(l), func(from, to int) []api.Term { return l[from:to] }}
}

// applied: a term that may be, applied to all of these, one list behind the other; all that can be wrong with that is that it is too great.
func applied(f api.Term, l ...[]api.Term) (api.Term, api.Errno) {
	t := term.Apply(f, slices.Concat(l...)...)
	if t.K == 0 {
		return api.Term{}, api.ErrMany
	}
	return t, api.OK
}
