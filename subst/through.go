package subst

import (
	"slices"

	"batten/api"
)

const beyond = 1 << 21 // whatever it is added to is above the numbers that a Var may have

// leaf says what comes in the place of a node that has no terms, with so many binders around it: a zero term, if the node stays.
type leaf func(x *api.Term, under int) (api.Term, api.Errno)

// through goes through a term from the left, and ends at the first error. A zero term: all of it stays. Parts that stay are shared.
func through(x *api.Term, under int, at leaf) (api.Term, api.Errno) {
	if len(x.T) == 0 {
		return at(x, under)
	}
	var l []api.Term // the terms of x, once one of them is another one
	for i := range x.T {
		if i == len(x.T)-1 && binds(x.K) {
			under++
		}
		y, e := through(&x.T[i], under, at)
		if e != api.OK {
			return api.Term{}, e
		}
		if y.K == 0 {
			continue
		}
		if l == nil {
			l = slices.Clone(x.T)
		}
		l[i] = y
	}
	if l == nil {
		return api.Term{}, api.OK
	}
	return api.Term{K: x.K, N: x.N, S: x.S, T: l}, api.OK
}

// binds: does a node bind a variable in the last one of its terms?
func binds(k uint8) bool { return k == api.Lam || k == api.Pi || k == api.Let }

// turned: a term, with what comes in the place of each node that has no terms.
func turned(t api.Term, at leaf) (api.Term, api.Errno) {
	out, e := through(&t, 0, at)
	if e == api.OK && out.K == 0 {
		return t, api.OK
	}
	return out, e
}

// free: what is to be done with free variables, of that number and under so many binders; all else stays.
func free(to func(v, under int) (api.Term, api.Errno)) leaf {
	return func(x *api.Term, under int) (api.Term, api.Errno) {
		if x.K != api.Var || x.N < under {
			return api.Term{}, api.OK
		}
		return to(x.N-under, under)
	}
}

// lifting: by is added to the free variables from from on, unless one of them would then stand below that.
func lifting(from, by int) leaf {
	by = min(by, beyond) // more would leave the ints
	return free(func(v, under int) (api.Term, api.Errno) {
		switch {
		case v < from || by == 0:
			return api.Term{}, api.OK
		case v+by < from:
			return api.Term{}, api.ErrVar
		}
		return variable(v + by + under), api.OK
	})
}

func variable(n int) api.Term { return api.Term{K: api.Var, N: n} }
