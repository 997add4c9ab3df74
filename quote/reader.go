package quote

import (
	"batten/api"
	"batten/values"
)

// part of a value that is read back.
type part struct {
	values.Part
	seen *int // how many nodes were read of what one and the same step has made
}

// reader reads values back, with what is left of their maker's fuel.
type reader struct{ maker *values.Maker }

// opened: the head of a part's value, what that is made of, and what it is applied to.
func (r *reader) opened(p part) (h api.Term, own, l []part, is bool) {
	fuel := r.maker.Left()
	v := r.maker.Value(p.Part)
	if v == nil {
		return api.Term{}, nil, nil, false
	}
	if r.maker.Left() < fuel {
		p.seen = new(int)
	}
	args := v.List(p.Under)
	*p.seen += 1 + len(args)
	if *p.seen > api.TopTerm { // as a term it were too great; and what is lost by contraction could be read again and again without a step
		return api.Term{}, nil, nil, false
	}
	h, terms := v.Head().Read(p.Under)
	return h, p.beside(terms), p.beside(args), true
}

// beside: parts of what the same step has made as p.
func (p part) beside(l []values.Part) []part {
	all := make([]part, len(l))
	for i, x := range l {
		all[i] = part{x, p.seen}
	}
	return all
}
