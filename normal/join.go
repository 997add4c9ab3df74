package normal

import (
	"batten/api"
	"batten/env"
	"batten/term"
)

const (
	most = 1 << 22 // how much may be held while weak heads wait for one another. Without it what has no end, but grows by nothing that stays, would take all memory; what is lost by contraction alone can go so deep.
	each = 16      // how much is held for a weak head, beside 1 for each of its parts, and for each node of their forms
)

// Join: the normal form of something that is opened part by part, in whichever way weak heads are got. Opened tells of a part the head of its weak head, without the terms that the head is made of; these; and what it is applied to. False, if opened says so of a part, or something is too great.
func Join[P any](e *env.Env, p P, opened func(p P) (h api.Term, own, l []P, is bool)) (n api.Term, is bool) {
	j := joiner[P]{e: e, opened: opened}
	for in := whole(); ; {
		if !j.open(p, in) {
			return api.Term{}, false
		}
		last := j.last()
		for last.isWhole() {
			n, is := j.close()
			if !is || len(j.waits) == 0 {
				return n, is
			}
			last = j.last()
			last.take(n)
		}
		p, in = last.next()
	}
}

// joiner joins forms. What waits stands in a list, as nothing says how deep that goes.
type joiner[P any] struct {
	e      *env.Env
	opened func(p P) (h api.Term, own, l []P, is bool)
	waits  []part[P]
}

// last: the innermost weak head that waits.
func (j *joiner[P]) last() *part[P] { return &j.waits[len(j.waits)-1] }

// open a part, the parts of which wait for their forms, in such a room.
func (j *joiner[P]) open(x P, in room) bool {
	if in.nodes < 1 || in.deep < 1 {
		return false
	}
	h, own, l, is := j.opened(x)
	if !is {
		return false
	}
	p := partOf(h, own, l, in)
	if len(j.waits) > 0 {
		p.held += j.last().held
	}
	if p.held > most {
		return false
	}
	if c, is := ctorOf(j.e, h); is && len(l) >= c.Fixed+c.Fields { // what is behind the fields a Lam around it may take off first
		p.lost, p.more = c.Fixed, room{nodes: 1, deep: 1} // of a field a Proj is taken off
	}
	j.waits = append(j.waits, p)
	return true
}

// close the innermost weak head, whose parts have their forms: its normal form.
func (j *joiner[P]) close() (api.Term, bool) {
	h, l := j.last().spine()
	n := term.Apply(h, l...)
	*j.last() = part[P]{} // what it holds is not needed any more
	j.waits = j.waits[:len(j.waits)-1]
	if n.K == 0 {
		return api.Term{}, false
	}
	return contracted(j.e, n), true
}
