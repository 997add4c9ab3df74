package equal

import (
	"batten/api"
	"batten/env"
	"batten/quote"
	"batten/values"
)

// found is what two are that were held against each other.
type found uint8

const (
	alike found = iota // so far: their parts are still to be held against each other
	unlike
	open // that is told by their forms, or by nothing
)

// pair of what is to be held against each other, under as many binders.
type pair struct {
	a, b values.Part
	deep int  // so many stand in one another, down to these
	lost bool // what these stand in may be alike without them, as contraction may lose them; of what has one type they are alike themselves, if all else is
}

// holder holds values against each other, with what is left of their maker's fuel.
type holder struct {
	e     *env.Env
	maker *values.Maker
	list  []pair // what is still to be held against each other, what comes next last
	seen  int    // so many parts were come to
}

// whole: what two values are. Where their parts do not tell it their normal forms do.
func (h *holder) whole(x, y *values.Value) found {
	h.list = append(h.list, pair{a: x.Part(0), b: y.Part(0), deep: 1})
	got := alike
waiting:
	for len(h.list) > 0 {
		p := h.next()
		got = h.held(p)
		switch {
		case got == unlike && p.lost, got == alike && h.isGreat(p):
			got = open
			break waiting
		case got != alike:
			break waiting
		}
	}
	if got == open {
		return h.forms(x.Part(0), y.Part(0))
	}
	return got
}

// next: the pair that comes next; it waits no more.
func (h *holder) next() pair {
	last := len(h.list) - 1
	p := h.list[last]
	h.list[last] = pair{} // what it holds is not needed any more
	h.list = h.list[:last]
	return p
}

// isGreat: is there more of two, or are they deeper, than a term may be? That may be by what contraction loses, or go on without an end, which forms tell.
func (h *holder) isGreat(p pair) bool { return h.seen > api.TopTerm || p.deep > api.TopDepth }

// held: what two are by their heads. If these are alike their parts wait.
func (h *holder) held(p pair) found {
	x, isX := h.side(p.a)
	y, isY := h.side(p.b)
	switch {
	case !isX || !isY: // what is too great on the way may be lost in a form; what the fuel goes out for takes it there, too
		return open
	case x.behind > 0 || y.behind > 0: // it has no type, but a lambda's contraction may leave what is contracted again
		return open
	case x.isStructure != y.isStructure || x.isStructure && !x.headed(y): // held against each field, what is none would be made again and again
		return h.forms(x.value.Part(p.a.Under), y.value.Part(p.b.Under))
	case x.isLam() && !y.isLam():
		return h.wait(p, x.own[1:], []values.Part{y.value.Longer(p.b.Under)}, 0)
	case y.isLam() && !x.isLam():
		return h.wait(p, []values.Part{x.value.Longer(p.a.Under)}, y.own[1:], 0)
	case !x.headed(y):
		return unlike
	}
	return h.wait(p, x.parts(), y.parts(), x.lost())
}

// wait: the parts of a pair come next, the first ones first. So many of them may be lost.
func (h *holder) wait(p pair, a, b []values.Part, lost int) found {
	h.seen += 1 + len(a)
	for i := len(a) - 1; i >= 0; i-- {
		h.list = append(h.list, pair{a[i], b[i], p.deep + 1, p.lost || i < lost})
	}
	return alike
}

// forms: what two are by their normal forms.
func (h *holder) forms(a, b values.Part) found {
	nodes, same, is := quote.Same(h.e, h.maker, a, b)
	h.seen += nodes
	switch {
	case !is:
		return open
	case same:
		return alike
	}
	return unlike
}
