package normal

import (
	"batten/api"
	"batten/env"
	"batten/rules"
	"batten/subst"
	"batten/term"
)

// contracted: what a term that is made of forms is contracted to.
func contracted(e *env.Env, t api.Term) api.Term {
	return search(t, func(t api.Term) (api.Term, bool) {
		if t.K == api.Lam {
			return function(t)
		}
		return structure(e, t)
	})
}

// search goes on from a term to what fits tells of it, till that tells nothing: the last one.
func search(t api.Term, fits func(t api.Term) (api.Term, bool)) api.Term {
	for {
		u, is := fits(t)
		if !is {
			return t
		}
		t = u
	}
}

// function: that which a Lam applies to its variable, if it does nothing else.
func function(t api.Term) (api.Term, bool) {
	b := t.T[1]
	if b.K != api.App || b.T[1].K != api.Var || b.T[1].N != 0 {
		return api.Term{}, false
	}
	g, f := subst.Lift(b.T[0], 0, -1) // an error, if the variable is there, too
	return g, f == api.OK
}

// structure: that of which a structure's constructor has all fields, each in its place.
func structure(e *env.Env, t api.Term) (api.Term, bool) {
	if t.K != api.App || t.T[1].K != api.Proj { // the last field is told without a look at all of t
		return api.Term{}, false
	}
	y := t.T[1].T[0]
	h, l := term.Spine(t)
	c, is := ctorOf(e, h)
	if !is || c.Fields == 0 || len(l) != c.Fixed+c.Fields {
		return api.Term{}, false
	}
	for i, x := range l[c.Fixed:] {
		if x.K != api.Proj || x.S != c.Of || x.N != i || !term.Same(x.T[0], y) {
			return api.Term{}, false
		}
	}
	if r, _ := rules.Record(e, c.Of); r.Name != c.Name { // asked last, as it goes through all names
		return api.Term{}, false
	}
	return y, true
}

// ctorOf: the info of a structure's constructor, if a head is that.
func ctorOf(e *env.Env, h api.Term) (api.Info, bool) {
	if h.K != api.Const {
		return api.Info{}, false
	}
	c, _ := e.Find(h.S)
	if c.Kind != api.IsCtor {
		return api.Info{}, false
	}
	s, _ := e.Find(c.Of)
	return c, s.Kind == api.IsType && s.Record
}
