package values

import (
	"batten/api"
	"batten/env"
)

// Part is a term that waits in a value, with so many binders around it. Its value is to be read under as many, so that what they bind has the numbers of the innermost variables there.
type Part struct {
	wait  wait
	Under int
}

// Part: a value, as one that waits under so many binders.
func (v *Value) Part(under int) Part {
	if v.isNone() {
		return Part{Under: under}
	}
	return Part{v.later, under}
}

// Longer: a value under so many binders, applied to the variable of one more binder, under that, too.
func (v *Value) Longer(under int) Part {
	if v.isNone() {
		return Part{Under: under + 1}
	}
	return Part{func(to *list) state { return v.later(to.behind(own(under))) }, under + 1}
}

// Structure: is a value what the constructor of a structure makes of all its fields? So many it is applied to ahead of these, and behind them.
func (m *Maker) Structure(e *env.Env, v *Value) (ahead, behind int, is bool) {
	if m == nil || m.told == nil || v.isNone() {
		return 0, 0, false
	}
	c, is := v.head.(constant)
	if !is {
		return 0, 0, false
	}
	r := m.told.record(e, c.t)
	behind = v.args.len() - r.at - r.many
	if r.at < 0 || behind < 0 {
		return 0, 0, false
	}
	return r.at, behind, true
}

// Head: what a value is at its head.
func (v *Value) Head() Head {
	if v.isNone() {
		return nothing{}
	}
	return v.head
}

// List: what the head is applied to, under so many binders, the first one first.
func (v *Value) List(under int) []Part {
	if v.isNone() {
		return nil
	}
	all := make([]Part, 0, v.args.len())
	for l := v.args; l != nil; l = l.rest {
		all = append(all, Part{l.first, under})
	}
	return all
}

func (nothing) Read(int) (api.Term, []Part) { return api.Term{}, nil }

func (h sort) Read(int) (api.Term, []Part) { return *h.t, nil }

func (h variable) Read(under int) (api.Term, []Part) {
	return api.Term{K: api.Var, N: h.n + under}, nil
}

func (h constant) Read(int) (api.Term, []Part) { return *h.t, nil }

func (h recursor) Read(int) (api.Term, []Part) { return *h.t, nil }

func (h lambda) Read(under int) (api.Term, []Part) {
	return api.Term{K: api.Lam}, h.in.bound(h.t, under)
}

func (h functions) Read(under int) (api.Term, []Part) {
	return api.Term{K: api.Pi}, h.in.bound(h.t, under)
}

func (h field) Read(under int) (api.Term, []Part) {
	return api.Term{K: api.Proj, N: h.t.N, S: h.t.S}, []Part{h.of.Part(under)}
}

// bound: the domain of a Lam or Pi, and its body, in which a variable of its own stands for what it binds.
func (in around) bound(t *api.Term, under int) []Part {
	return []Part{{in.later(&t.T[0]), under}, {in.with(own(under)).later(&t.T[1]), under + 1}}
}

// own: the variable that a binder under so many ones binds. Its number is below those of the free ones, so that it differs from all of them, and is 0 under one more binder.
func own(under int) wait {
	return func(to *list) state { return state{head: variable{-1 - under}, to: to} }
}
