package normal

import (
	"batten/api"
	"batten/env"
	"batten/reduce"
	"batten/term"
)

// most is how many weak heads may wait for one another: without it what has no end, but grows by nothing that stays, would take all memory. What is lost by contraction alone can go so deep.
const most = 1 << 18

// maker makes forms in an environment, with what is left of fuel.
type maker struct {
	e    *env.Env
	left int
}

// form: a normal form; false, if the fuel goes out, or something is too great. What waits stands in a list, as nothing says how deep that goes.
func (m *maker) form(t api.Term) (api.Term, bool) {
	var waits []part
	for in := whole(); ; {
		p, is := m.opened(t, in)
		if !is || len(waits) == most {
			return api.Term{}, false
		}
		waits = append(waits, p)
		last := &waits[len(waits)-1]
		for last.isWhole() {
			n, is := m.closed(last)
			waits = waits[:len(waits)-1]
			if !is || len(waits) == 0 {
				return n, is
			}
			last = &waits[len(waits)-1]
			last.take(n)
		}
		t, in = last.next()
	}
}

// opened: the weak head of a term, whose terms wait for their forms, in such a room.
func (m *maker) opened(t api.Term, in room) (part, bool) {
	if in.nodes < 1 || in.deep < 1 {
		return part{}, false
	}
	w, left, f := reduce.Head(m.e, t, m.left)
	if f != api.OK {
		return part{}, false
	}
	m.left = left
	h, l := term.Spine(w)
	p := partOf(h, l, in)
	if c, is := ctorOf(m.e, h); is && len(l) >= c.Fixed+c.Fields { // what is behind the fields a Lam around it may take off first
		p.lost, p.more = c.Fixed, room{nodes: 1, deep: 1} // of a field a Proj is taken off
	}
	return p, true
}

// closed: the normal form of a weak head whose terms are forms.
func (m *maker) closed(p *part) (api.Term, bool) {
	h, l := p.spine()
	n := term.Apply(h, l...)
	if n.K == 0 {
		return api.Term{}, false
	}
	return contracted(m.e, n), true
}
