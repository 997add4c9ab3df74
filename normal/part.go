package normal

import (
	"slices"

	"batten/api"
	"batten/term"
)

// room is how much a form may have at most: if it has more, what it is to stand in is too great. So what grows without an end is known by what is asked for, ahead of all that is made.
type room struct{ nodes, deep int }

// whole: as much as there may be at all.
func whole() room { return room{nodes: api.TopTerm, deep: api.TopDepth} }

// part is a weak head, whose terms are put into their forms, one behind the other.
type part struct {
	head  api.Term
	terms []api.Term // those of the head, and then what it is applied to
	done  int        // so many of them are forms
	in    room       // of the whole
	lost  int        // so many of them, the first ones, may be lost by contraction
	more  room       // the others may have so much more than the whole, as contraction takes that off
}

func partOf(h api.Term, l []api.Term, in room) part {
	p := part{head: h, terms: slices.Concat(h.T, l), in: in, more: room{nodes: -1, deep: -1}}
	if h.K == api.Lam { // its domain is lost, and of its body an App and a Var
		p.lost, p.more = 1, room{nodes: 2, deep: 1}
	}
	return p
}

func (p *part) isWhole() bool { return p.done == len(p.terms) }

// next: what is to be put into its form, and in which room.
func (p *part) next() (api.Term, room) {
	if p.done < p.lost {
		return p.terms[p.done], whole()
	}
	return p.terms[p.done], room{nodes: p.in.nodes + p.more.nodes, deep: p.in.deep + p.more.deep}
}

// take the form of what was next.
func (p *part) take(n api.Term) {
	p.terms[p.done] = n
	p.done++
	if p.more.nodes < 0 { // it stays, and the others have less
		p.in.nodes -= term.Size(n)
	}
}

// spine: the head with its terms, and what it is applied to.
func (p *part) spine() (h api.Term, l []api.Term) {
	h = p.head
	own := len(h.T)
	if own > 0 {
		h.T = slices.Clone(p.terms[:own])
	}
	return h, p.terms[own:]
}
