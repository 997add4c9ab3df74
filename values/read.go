package values

import "batten/api"

// Part is a term that waits in a value, with so many binders around it. Its value is to be read under as many, so that what they bind has the numbers of the innermost variables there.
type Part struct {
	wait  wait
	Under int
}

// Part: a value, as one that waits under so many binders.
func (v *Value) Part(under int) Part {
	if v.isNone() {
		return Part{Under: under}
	}
	return Part{v.later, under}
}

// Head: what a value is at its head.
func (v *Value) Head() Head {
	if v.isNone() {
		return nothing{}
	}
	return v.head
}

// List: what the head is applied to, under so many binders, the first one first.
func (v *Value) List(under int) []Part {
	if v.isNone() {
		return nil
	}
	all := make([]Part, 0, v.args.len())
	for l := v.args; l != nil; l = l.rest {
		all = append(all, Part{l.first, under})
	}
	return all
}

func (nothing) Read(int) (api.Term, []Part) { return api.Term{}, nil }

func (h sort) Read(int) (api.Term, []Part) { return *h.t, nil }

func (h variable) Read(under int) (api.Term, []Part) {
	return api.Term{K: api.Var, N: h.n + under}, nil
}

func (h constant) Read(int) (api.Term, []Part) { return *h.t, nil }

func (h recursor) Read(int) (api.Term, []Part) { return *h.t, nil }

func (h lambda) Read(under int) (api.Term, []Part) {
	return api.Term{K: api.Lam}, h.in.bound(h.t, under)
}

func (h functions) Read(under int) (api.Term, []Part) {
	return api.Term{K: api.Pi}, h.in.bound(h.t, under)
}

func (h field) Read(under int) (api.Term, []Part) {
	return api.Term{K: api.Proj, N: h.t.N, S: h.t.S}, []Part{h.of.Part(under)}
}

// bound: the domain of a Lam or Pi, and its body, in which a variable of its own stands for what it binds. Its number is below those of the free ones, so that it differs from all of them, and is 0 under one more binder.
func (in around) bound(t *api.Term, under int) []Part {
	own := func(to *list) state { return state{head: variable{-1 - under}, to: to} }
	return []Part{{in.later(&t.T[0]), under}, {in.with(own).later(&t.T[1]), under + 1}}
}
