package rules

import (
	"testing"

	"batten/api"
	"batten/env"
	"batten/sample"
	"batten/subst"
	"batten/term"
)

// head makes steps at the head of a term, by the rules, till there is none.
func head(e *env.Env, t api.Term) api.Term {
	for {
		u, is := step(e, t)
		if !is {
			return t
		}
		t = u
	}
}

func step(e *env.Env, t api.Term) (api.Term, bool) {
	h, l := term.Spine(t)
	if h.K == api.Lam && len(l) > 0 {
		b, f := subst.Inst(h.T[1], l[0])
		return term.Apply(b, l[1:]...), f == api.OK
	}
	if h.K == api.Proj {
		x, is := Field(e, h.S, h.N, head(e, h.T[0]))
		return term.Apply(x, l...), is
	}
	if at, is := Major(e, t); is {
		u, f := Iota(e, t, head(e, l[at]))
		return u, f == api.OK
	}
	u, f := Delta(e, t)
	return u, f == api.OK
}

// normal: a term of which all is put to its head.
func normal(e *env.Env, t api.Term) api.Term {
	h, l := term.Spine(head(e, t))
	h = sample.Clone(h)
	for i := range h.T {
		h.T[i] = normal(e, h.T[i])
	}
	for _, a := range l {
		h = app(h, normal(e, a))
	}
	return h
}

// The rules, put together, reckon: the sample of the chapter.
func TestTheSampleReckons(t *testing.T) {
	e := basis(t)
	n, f, a := con("N"), con("f"), con("a")
	mul := func(x, y api.Term) api.Term {
		return apply(con("N.rec", zero), lam(n, n), num(0), lam(n, apply(con("add"), x)), y)
	}
	at := func(name string) api.Term { return con(name, zero) }
	list := func(l ...api.Term) api.Term {
		out := app(at("List.nil"), n)
		for i := range l {
			out = apply(at("List.cons"), n, l[len(l)-1-i], out)
		}
		return out
	}
	sum := func(l api.Term) api.Term {
		each := lam(n, lam(app(at("List"), n), lam(n, apply(con("add"), vr(0), vr(2)))))
		return apply(con("List.rec", zero, zero), n, lam(app(at("List"), n), n), num(0), each, l)
	}
	pair := func(x, y api.Term) api.Term { return apply(con("Pair.mk", zero, zero), n, n, x, y) }
	swap := func(p api.Term) api.Term { return apply(con("swap", zero, zero), n, n, p) }
	first := func(p api.Term) api.Term {
		return apply(con("Pair.rec", zero, zero, zero), n, n, lam(con("N"), n), lam(n, lam(n, vr(1))), p)
	}
	for what, c := range map[string][2]api.Term{
		"one":              {con("one"), num(1)},
		"add of 1 and 1":   {apply(con("add"), con("one"), con("one")), num(2)},
		"add of 2 and 3":   {apply(con("add"), num(2), num(3)), num(5)},
		"add of a and 2":   {apply(con("add"), a, num(2)), app(con("N.succ"), app(con("N.succ"), a))},
		"double of 3":      {app(con("double"), num(3)), num(6)},
		"id of 4":          {apply(con("id", zero), n, num(4)), num(4)},
		"id of f, of a":    {apply(con("id", zero), pi(n, n), f, a), app(f, a)},
		"3 times 4":        {mul(num(3), num(4)), num(12)},
		"a sum":            {sum(list(num(1), con("one"), num(3))), num(5)},
		"swap of 1 and 2":  {swap(pair(num(1), num(2))), pair(num(2), num(1))},
		"swap of p, twice": {swap(swap(con("p"))), pair(prj("Pair", 0, con("p")), prj("Pair", 1, con("p")))},
		"the first of 1,2": {first(pair(num(1), num(2))), num(1)},
		"the first of p":   {first(con("p")), prj("Pair", 0, con("p"))},
		"f of the first":   {app(f, prj("Pair", 0, pair(a, num(2)))), app(f, a)},
		"a field, applied": {app(prj("Pair", 1, apply(con("Pair.mk", zero, zero), n, pi(n, n), num(0), con("double"))), num(2)), num(4)},
	} {
		if got := normal(e, c[0]); text(got) != text(c[1]) {
			t.Errorf("%s: %s, want %s", what, text(got), text(c[1]))
		}
	}
	// what is stuck stays: add goes by its second one
	stuck := normal(e, apply(con("add"), num(1), a))
	if h, l := term.Spine(stuck); h.S != "N.rec" || len(l) != 4 || text(l[3]) != text(a) {
		t.Errorf("add of 1 and a: %s", text(stuck))
	}
}
