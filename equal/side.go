package equal

import (
	"slices"

	"batten/api"
	"batten/values"
)

// side of a pair: a value, as far as its head tells.
type side struct {
	value *values.Value
	head  api.Term      // without the terms that it is made of
	own   []values.Part // these
	args  []values.Part // what it is applied to

	isStructure   bool // it is what a structure's constructor makes of all its fields
	fixed, behind int  // so many it is applied to ahead of these, and behind them
}

// side: what waits there; false, if the fuel goes out, or something is too great.
func (h *holder) side(p values.Part) (side, bool) {
	v := h.maker.Value(p)
	if v == nil {
		return side{}, false
	}
	s := side{value: v, args: v.List(p.Under)}
	s.head, s.own = v.Head().Read(p.Under)
	s.fixed, s.behind, s.isStructure = h.maker.Structure(h.e, v)
	return s, true
}

func (s side) isLam() bool { return s.head.K == api.Lam }

// headed: have both the same head, applied to as many? The terms that it is made of are not looked at.
func (s side) headed(y side) bool {
	a, b := s.head, y.head
	return a.K == b.K && a.N == b.N && a.S == b.S && slices.Equal(a.Ls, b.Ls) && len(s.args) == len(y.args)
}

// parts: all that is there beside the head's node, in the order in which forms are made.
func (s side) parts() []values.Part { return slices.Concat(s.own, s.args) }

// lost: how many parts, the first ones, contraction may lose.
func (s side) lost() int {
	if s.isLam() { // its domain
		return 1
	}
	return s.fixed
}
