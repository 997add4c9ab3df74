package normal

import (
	"slices"

	"batten/api"
	"batten/term"
)

// room is how much a form may have at most: if it has more, what it is to stand in is too great. So what grows without an end is known by what is asked for, ahead of all that is made.
type room struct{ nodes, deep int }

// whole: as much as there may be at all.
func whole() room { return room{nodes: api.TopTerm, deep: api.TopDepth} }

// part is a weak head, whose own parts are put into their forms, one behind the other.
type part[P any] struct {
	head  api.Term // without the terms that it is made of
	own   int      // so many of these there are
	parts []P      // they, and then what the head is applied to
	forms []api.Term
	in    room // of the whole
	lost  int  // so many parts, the first ones, may be lost by contraction
	more  room // the others may have so much more than the whole, as contraction takes that off
	held  int  // so much is held for it, and for all that wait for it
}

func partOf[P any](h api.Term, own, l []P, in room) part[P] {
	p := part[P]{head: h, own: len(own), parts: slices.Concat(own, l), in: in, more: room{nodes: -1, deep: -1}}
	p.held = each + len(p.parts)
	if h.K == api.Lam { // its domain is lost, and of its body an App and a Var
		p.lost, p.more = 1, room{nodes: 2, deep: 1}
	}
	return p
}

func (p *part[P]) isWhole() bool { return len(p.forms) == len(p.parts) }

// next: what is to be put into its form, and in which room.
func (p *part[P]) next() (P, room) {
	x := p.parts[len(p.forms)]
	if len(p.forms) < p.lost {
		return x, whole()
	}
	return x, room{nodes: p.in.nodes + p.more.nodes, deep: p.in.deep + p.more.deep}
}

// take the form of what was next.
func (p *part[P]) take(n api.Term) {
	nodes := term.Size(n)
	p.forms = append(p.forms, n)
	p.held += nodes
	if p.more.nodes < 0 { // it stays, and the others have less
		p.in.nodes -= nodes
	}
}

// spine: the head with its terms, and what it is applied to.
func (p *part[P]) spine() (h api.Term, l []api.Term) {
	h = p.head
	if p.own > 0 {
		h.T = slices.Clone(p.forms[:p.own])
	}
	return h, p.forms[p.own:]
}
