package values

import (
	"testing"

	"batten/api"
	"batten/sample"
)

// P11.1: the sample of the rules, and the chapter's example over it.

func TestTheExample(t *testing.T) {
	e := basis(t)
	v := has(t, "add of 1 and 1", e, add(num(1), num(1)), is{api.Const, "N.succ", 1}, 10)
	stands(t, "add of 1 and 1", e, v, num(2))
}

func TestTheSample(t *testing.T) {
	e := basis(t)
	zeroth, next, stuck := is{api.Const, "N.zero", 0}, is{api.Const, "N.succ", 1}, is{api.Const, "N.rec", 4}
	pair, lambda, types := is{api.Const, "Pair.mk", 4}, is{api.Lam, "", 0}, is{api.Const, "a", 0}
	rec := func(x api.Term) api.Term {
		return apply(con("Pair.rec", zero, zero, zero), n, n, lam(n, n), lam(n, lam(n, vr(1))), x)
	}
	for what, c := range map[string]struct {
		x     api.Term
		want  is
		steps int
	}{
		"one":                       {con("one"), next, 1},
		"a":                         {a, types, 0},
		"f of one":                  {app(f, con("one")), is{api.Const, "f", 1}, 0},
		"p":                         {p, is{api.Const, "p", 0}, 0},
		"2":                         {num(2), next, 0},
		"add":                       {con("add"), lambda, 1},
		"add of 2":                  {app(con("add"), num(2)), lambda, 2},
		"add of 0 and 0":            {add(num(0), num(0)), zeroth, 7},
		"add of 2 and 0":            {add(num(2), num(0)), next, 7},
		"add of a and 0":            {add(a, num(0)), types, 7},
		"add of 0 and a":            {add(num(0), a), stuck, 3},
		"add of a variable, and 0":  {add(vr(3), num(0)), is{api.Var, "", 0}, 7},
		"add of 0 and a variable":   {add(num(0), vr(3)), stuck, 3},
		"add of 0, add of 0 and a":  {add(num(0), add(num(0), a)), stuck, 6},
		"add of a, add of a and 0":  {add(a, add(a, num(0))), stuck, 3 + 7},
		"add of a, add of a and 1":  {add(a, add(a, num(1))), next, 3 + 10 + 7},
		"double":                    {con("double"), lambda, 1},
		"double of 1":               {app(con("double"), num(1)), next, 12},
		"double of a":               {app(con("double"), a), stuck, 5},
		"id":                        {con("id", zero), lambda, 1},
		"id of N":                   {app(con("id", two), n), lambda, 2},
		"id of double, of 0":        {apply(con("id", zero), unary, con("double"), num(0)), zeroth, 3 + 2 + 7},
		"id of sorts":               {apply(con("id", two), srt(zero), n), is{api.Const, "N", 0}, 3},
		"id of a sort":              {apply(con("id", two), srt(two), srt(zero)), is{api.Sort, "", 0}, 3},
		"id of functions":           {apply(con("id", two), srt(zero), unary), is{api.Pi, "", 0}, 3},
		"swap of p":                 {swap(p), pair, 4},
		"the first of a swap of p":  {first(swap(p)), is{api.Proj, "Pair", 0}, 5},
		"the first of a swap":       {first(swap(mk(a, con("one")))), next, 4 + 1 + 1 + 1},
		"the first of a swap twice": {first(swap(swap(mk(con("one"), a)))), next, 4 + 1 + 4 + 1 + 1 + 1},
		"the first by Pair.rec":     {rec(mk(con("one"), a)), next, 1 + 5 + 2 + 1 + 1},
		"the first of p, by that":   {rec(p), is{api.Proj, "Pair", 0}, 1 + 5 + 2},
		"a field of functions":      {app(second(mk(a, con("double"))), num(0)), zeroth, 1 + 2 + 7},
		"nil":                       {row(), is{api.Const, "List.nil", 1}, 0},
		"a list":                    {row(con("one"), a), is{api.Const, "List.cons", 3}, 0},
		"the sum of nothing":        {sum(row()), zeroth, 5},
		"the sum of 0 and a":        {sum(row(num(0), a)), stuck, 7 + 3 + 3 + 4 + 7 + 3 + 3},
		"the sum of a variable":     {sum(vr(0)), is{api.Const, "List.rec", 5}, 0},
		"a list of functions, of 0": {apply(con("List.rec", zero, zero), unary, n, a, lam(n, lam(n, lam(n, app(vr(2), num(0))))), row(con("double"))), zeroth, 1 + 6 + 3 + 2 + 7},
	} {
		stands(t, what, e, has(t, what, e, c.x, c.want, c.steps), c.x)
		obeyed(t, e, c.x, 100)
	}
}

// All reckoning is as it is with numbers.
func TestTheSampleReckons(t *testing.T) {
	e := basis(t)
	for what, c := range sample.Reckonings() {
		v, left, g := Of(e, c.X, 1<<20)
		r := readerOf(left)
		if got := r.read(v, 0); g != api.OK || r.out || text(got) != text(num(c.Want)) {
			t.Errorf("%s: error %d, %.300s, want %d", what, g, text(got), c.Want)
		}
	}
}

// All names of the sample, at any number of levels, of any number of arguments.
func TestTheNamesOfTheSample(t *testing.T) {
	e := basis(t)
	for _, x := range sample.Rows() {
		obeyed(t, e, x, 60)
		obeyed(t, e, second(x), 60)
		obeyed(t, e, app(count(x), a), 60)
	}
}

// Small terms of all kinds.
func TestSmallTerms(t *testing.T) {
	e := filled(t, sample.SmallInfos()...)
	for _, x := range sample.Some(3) {
		for _, y := range []api.Term{x, app(con("B", two), app(con("A"), x)), prj("P", 0, x), app(lam(n, lifted(x)), a), let(n, x, app(vr(0), vr(0)))} {
			obeyed(t, e, y, 25)
		}
	}
}
