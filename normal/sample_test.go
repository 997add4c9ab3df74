package normal

import (
	"testing"

	"batten/api"
	"batten/sample"
)

// P10.1, P10.2: the sample of the rules, and the chapter's examples over it.

func TestTheExamples(t *testing.T) {
	e := basis(t)
	says(t, "add of 1 and 1, and 2", e, add(num(1), num(1)), num(2), 14, api.Alike)
	becomes(t, "add of 1 and 1", e, add(num(1), num(1)), num(2), 14)
	says(t, "f, and the lambda of it", e, lam(n, app(f, vr(0))), f, 0, api.Alike)
	becomes(t, "the lambda of f", e, lam(n, app(f, vr(0))), f, 0)
	says(t, "p, and the pair of its Projs", e, p, both(p), 0, api.Alike)
	becomes(t, "the pair of p's Projs", e, both(p), p, 0)
}

func TestTheSample(t *testing.T) {
	e := basis(t)
	stuck := apply(recN, lam(n, n), a, lam(n, con("N.succ")), a) // add of a and a
	for what, c := range map[string]struct {
		x, want api.Term
		steps   int
	}{
		"one":                       {con("one"), num(1), 1},
		"a":                         {a, a, 0},
		"f of one":                  {app(f, con("one")), app(f, num(1)), 1},
		"p":                         {p, p, 0},
		"add of 2":                  {app(con("add"), num(2)), apply(recN, lam(n, n), num(2), lam(n, con("N.succ"))), 2},
		"add of 2 and 0":            {add(num(2), num(0)), num(2), 7},
		"add of a and 0":            {add(a, num(0)), a, 7},
		"add of a and a":            {add(a, a), stuck, 3},
		"add of a, and 2":           {add(a, num(2)), succ(succ(a)), 3 + 7 + 7 + 4},
		"double of a":               {app(con("double"), a), stuck, 5},
		"double of 1":               {app(con("double"), num(1)), num(2), 16},
		"double":                    {con("double"), lam(n, apply(recN, lam(n, n), vr(0), lam(n, con("N.succ")), vr(0))), 1 + 3},
		"id":                        {con("id", zero), lam(srt(zero), lam(vr(0), vr(0))), 1},
		"swap of p":                 {swap(p), mk(second(p), first(p)), 4},
		"swap of a pair":            {swap(mk(a, con("one"))), mk(num(1), a), 4 + 1 + 1 + 1},
		"swap of a swap":            {swap(swap(mk(a, num(3)))), mk(a, num(3)), 4 + 2*(1+4+1)},
		"the first of a swap of p":  {first(swap(p)), second(p), 5},
		"a pair of fields of swaps": {mk(first(swap(p)), second(swap(p))), mk(second(p), first(p)), 10},
		"p, by its swap's fields":   {mk(second(swap(p)), first(swap(p))), p, 10},
		"the sum of nothing":        {sum(list()), num(0), 5},
		"nil":                       {list(), list(), 0},
		"a list":                    {list(con("one"), a, add(num(1), num(1))), list(num(1), a, num(2)), 1 + 14},
	} {
		becomes(t, what, e, c.x, c.want, c.steps)
	}
}

// All reckoning is as it is with numbers.
func TestTheSampleReckons(t *testing.T) {
	e := basis(t)
	mul := func(x, y api.Term) api.Term {
		return apply(recN, lam(n, n), num(0), lam(n, app(con("add"), x)), y)
	}
	is := func(what string, x api.Term, want int) {
		t.Helper()
		says(t, what, e, x, num(want), 1<<20, api.Alike)
		says(t, what+", and one more", e, x, num(want+1), 1<<20, api.Unlike)
		if got, _, f := Form(e, x, 1<<20); f != api.OK || text(got) != text(num(want)) {
			t.Errorf("%s: error %d, %.300s, want %d", what, f, text(got), want)
		}
	}
	for i := range 6 {
		for j := range 6 {
			is("a sum", add(num(i), num(j)), i+j)
			is("a product", mul(num(i), num(j)), i*j)
			is("the sum of a list", sum(list(num(i), con("one"), num(j))), i+j+1)
		}
	}
	power := con("one")
	for range 7 {
		power = app(con("double"), power)
	}
	is("a power", power, 128)
	next := lam(n, lam(couple, mk(second(vr(0)), add(first(vr(0)), second(vr(0))))))
	fib := func(k int) api.Term {
		return first(apply(recN, lam(n, couple), mk(num(0), num(1)), next, num(k)))
	}
	is("a recursor that asks for another one", fib(7), 13)
}

// All names of the sample, at any number of levels, of any number of arguments, are as the words say.
func TestTheWordsOfTheSample(t *testing.T) {
	e := basis(t)
	for _, x := range sample.Rows() {
		for _, y := range []api.Term{x, second(x), app(count(x), a), both(x), lam(n, app(x, vr(0)))} {
			obeyed(t, e, y, 80)
		}
	}
}
