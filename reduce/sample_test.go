package reduce

import (
	"testing"

	"batten/api"
	"batten/env"
	"batten/sample"
	"batten/term"
)

// P9.1: the sample of the rules, and the chapter's examples over it.

func TestTheExamples(t *testing.T) {
	e := basis(t)
	rest := apply(recN, lam(n, n), num(1), lam(n, lam(n, succ(vr(0)))), num(0))
	becomes(t, "add of 1 and 1", e, apply(con("add"), num(1), num(1)), succ(rest), 10)
	becomes(t, "add of one and one", e, apply(con("add"), con("one"), con("one")), succ(apply(recN, lam(n, n), con("one"), lam(n, lam(n, succ(vr(0)))), num(0))), 11)
	becomes(t, "what succ is of", e, rest, num(1), 4)
	stays(t, "2", e, num(2))
}

func TestTheSample(t *testing.T) {
	e := basis(t)
	added := func(x, y api.Term) api.Term {
		return apply(recN, lam(n, n), x, lam(n, lam(n, succ(vr(0)))), y)
	}
	list := func(l ...api.Term) api.Term {
		out := app(con("List.nil", zero), n)
		for i := range l {
			out = apply(con("List.cons", zero), n, l[len(l)-1-i], out)
		}
		return out
	}
	each := lam(n, lam(app(con("List", zero), n), lam(n, apply(con("add"), vr(0), vr(2)))))
	sum := func(l api.Term) api.Term {
		return apply(recList, n, lam(app(con("List", zero), n), n), num(0), each, l)
	}
	swap := func(x api.Term) api.Term { return apply(con("swap", zero, zero), n, n, x) }
	first := func(x api.Term) api.Term {
		return apply(con("Pair.rec", zero, zero, zero), n, n, lam(n, n), lam(n, lam(n, vr(1))), x)
	}
	for what, c := range map[string]struct {
		x, want api.Term
		steps   int
	}{
		"one":                       {con("one"), num(1), 1},
		"a":                         {a, a, 0},
		"f of one":                  {app(f, con("one")), app(f, con("one")), 0},
		"p":                         {p, p, 0},
		"add of nothing":            {con("add"), lam(n, lam(n, added(vr(1), vr(0)))), 1},
		"add of 2":                  {app(con("add"), num(2)), lam(n, added(num(2), vr(0))), 2},
		"add of 2 and 0":            {apply(con("add"), num(2), num(0)), num(2), 7},
		"add of a and 0":            {apply(con("add"), a, num(0)), a, 7},
		"add of 0 and a":            {apply(con("add"), num(0), a), added(num(0), a), 3},
		"add of 0, add of 0 and a":  {apply(con("add"), num(0), apply(con("add"), num(0), a)), added(num(0), added(num(0), a)), 6},
		"add of a, add of a and 0":  {apply(con("add"), a, apply(con("add"), a, num(0))), added(a, a), 3 + 7},
		"add of a, add of a and 1":  {apply(con("add"), a, apply(con("add"), a, num(1))), succ(added(a, added(a, num(0)))), 3 + 10 + 7},
		"double of 1":               {app(con("double"), num(1)), succ(added(num(1), num(0))), 12},
		"double of a":               {app(con("double"), a), added(a, a), 5},
		"double of nothing":         {con("double"), lam(n, apply(con("add"), vr(0), vr(0))), 1},
		"id of double, of 0":        {apply(con("id", zero), unary, con("double"), num(0)), num(0), 3 + 2 + 7},
		"swap of p":                 {swap(p), apply(con("Pair.mk", zero, zero), n, n, prj("Pair", 1, p), prj("Pair", 0, p)), 4},
		"the first of a swap of p":  {prj("Pair", 0, swap(p)), prj("Pair", 1, p), 5},
		"the first of a swap":       {prj("Pair", 0, swap(mk(a, con("one")))), num(1), 4 + 1 + 1 + 1},
		"the first of a swap twice": {prj("Pair", 0, swap(swap(mk(con("one"), a)))), num(1), 4 + 1 + 4 + 1 + 1 + 1},
		"the first by Pair.rec":     {first(mk(con("one"), a)), num(1), 1 + 5 + 2 + 1 + 1},
		"the first of p, by that":   {first(p), prj("Pair", 0, p), 1 + 5 + 2},
		"Pair.rec, a field":         {prj("Pair", 1, first(mk(mk(a, f), a))), f, 1 + 5 + 2 + 1 + 1},
		"the sum of nothing":        {sum(list()), num(0), 5},
		"the sum of 0 and a":        {sum(list(num(0), a)), added(sum(list()), a), 7 + 3 + 3 + 4 + 7 + 3 + 3},
	} {
		becomes(t, what, e, c.x, c.want, c.steps)
	}
}

// number: what a term is, if weak heads of it and of all that is one less are N.succ or N.zero.
func number(t *testing.T, e *env.Env, x api.Term) (n, steps int) {
	t.Helper()
	for {
		w, left, f := Head(e, x, 1<<40)
		h, l := term.Spine(w)
		steps += 1<<40 - left
		switch {
		case f != api.OK || h.K != api.Const || len(l) > 1:
			t.Fatalf("error %d, %s", f, text(w))
		case len(l) == 0:
			if h.S != "N.zero" {
				t.Fatalf("no number: %s", text(w))
			}
			return n, steps
		}
		n++
		x = l[0]
	}
}

// All reckoning goes by weak heads alone.
func TestTheSampleReckons(t *testing.T) {
	e := basis(t)
	add := func(x, y api.Term) api.Term { return apply(con("add"), x, y) }
	mul := func(x, y api.Term) api.Term {
		return apply(recN, lam(n, n), num(0), lam(n, app(con("add"), x)), y)
	}
	for i := range 6 {
		for j := range 6 {
			if k, steps := number(t, e, add(num(i), num(j))); k != i+j || steps != 7+7*j {
				t.Errorf("%d and %d: %d, by %d", i, j, k, steps)
			}
			if k, _ := number(t, e, mul(num(i), num(j))); k != i*j {
				t.Errorf("%d times %d: %d", i, j, k)
			}
		}
	}
	power := con("one")
	for range 6 {
		power = app(con("double"), power)
	}
	if k, _ := number(t, e, power); k != 64 {
		t.Errorf("2 to the 6th: %d", k)
	}
	// a recursor that asks for another one, in each number: 0, 1, 1, 2, 3, 5, 8, 13, 21, 34
	pair := apply(con("Pair", zero, zero), n, n)
	next := lam(n, lam(pair, mk(prj("Pair", 1, vr(0)), add(prj("Pair", 0, vr(0)), prj("Pair", 1, vr(0))))))
	fib := prj("Pair", 0, apply(recN, lam(n, pair), mk(num(0), num(1)), next, num(9)))
	if k, _ := number(t, e, fib); k != 34 {
		t.Errorf("%d", k)
	}
}

// All names of the sample, at any number of levels, of any number of arguments, are as the words say.
func TestTheWordsOfTheSample(t *testing.T) {
	e := basis(t)
	for _, x := range sample.Rows() {
		obeyed(t, e, x, 60)
		obeyed(t, e, prj("Pair", 1, x), 60)
		obeyed(t, e, app(count(x), a), 60)
	}
}
