package quote

import (
	"testing"

	"batten/api"
	"batten/sample"
)

// P12.1: the sample of the rules, and the chapter's example over it.

func TestTheExample(t *testing.T) {
	becomes(t, "double of 1", basis(t), app(con("double"), num(1)), num(2), 16)
}

func TestTheSample(t *testing.T) {
	e := basis(t)
	for what, c := range sample.Sums() {
		becomes(t, what, e, c.X, c.Want, c.Steps)
		becomes(t, what+", below a lambda", e, lam(couple, apply(vr(1), lifted(c.X), vr(0), vr(0))), lam(couple, apply(vr(1), lifted(c.Want), vr(0), vr(0))), c.Steps)
		becomes(t, what+", in functions", e, pi(app(f, c.X), lifted(c.X)), pi(app(f, c.Want), lifted(c.Want)), 2*c.Steps)
	}
}

// Functions of the sample, with variables in the place of numbers.
func TestTheSampleOfVariables(t *testing.T) {
	e := basis(t)
	plus := func(x, y api.Term) api.Term { return apply(recN, lam(n, n), x, lam(n, con("N.succ")), y) }
	cons := func(x, y api.Term) api.Term { return apply(con("List.cons", zero), n, x, y) }
	added := lam(n, lam(sample.ListOf(n), lam(n, plus(vr(0), vr(2))))) // what the sum of a list does with one of it
	for what, c := range map[string]sample.Formed{
		"a sum":                     {X: add(vr(2), vr(5)), Want: plus(vr(2), vr(5)), Steps: 3},
		"a sum, one more":           {X: add(vr(2), succ(vr(5))), Want: succ(plus(vr(2), vr(5))), Steps: 3 + 7},
		"a sum of sums":             {X: add(add(vr(0), vr(1)), add(vr(1), num(0))), Want: plus(plus(vr(0), vr(1)), vr(1)), Steps: 3 + 7 + 3},
		"a function of a sum":       {X: lam(n, add(vr(0), num(1))), Want: con("N.succ"), Steps: 3 + 7 + 4},
		"a function of two":         {X: lam(n, lam(n, add(vr(0), vr(1)))), Want: lam(n, lam(n, plus(vr(0), vr(1)))), Steps: 3},
		"double, below a lambda":    {X: lam(unary, lam(n, app(con("double"), app(vr(1), vr(0))))), Want: lam(unary, lam(n, plus(app(vr(1), vr(0)), app(vr(1), vr(0))))), Steps: 2 + 3},
		"a pair of both":            {X: lam(couple, swap(swap(vr(0)))), Want: lam(couple, vr(0)), Steps: 4 + 2*5},
		"a pair, swapped":           {X: lam(couple, swap(vr(0))), Want: lam(couple, mk(second(vr(0)), first(vr(0)))), Steps: 4},
		"a field of one":            {X: pi(couple, second(swap(vr(0)))), Want: pi(couple, first(vr(0))), Steps: 5},
		"a structure's recursor":    {X: apply(con("Pair.rec", zero, zero, zero), n, n, n, vr(3), vr(1)), Want: apply(vr(3), first(vr(1)), second(vr(1))), Steps: 6},
		"a list":                    {X: row(add(vr(0), num(0)), vr(1)), Want: row(vr(0), vr(1)), Steps: 7},
		"the sum of a list":         {X: sum(cons(num(0), vr(4))), Want: apply(con("List.rec", zero, zero), n, lam(sample.ListOf(n), n), num(0), added, vr(4)), Steps: 7 + 3 + 3 + 4 + 3},
		"a recursor to functions":   {X: apply(recN, lam(n, unary), f, lam(n, lam(unary, lam(n, app(vr(1), app(vr(1), vr(0)))))), num(1)), Want: lam(n, app(f, app(f, vr(0)))), Steps: 5 + 2 + 4 + 4},
		"id of what is below it":    {X: lam(srt(zero), apply(con("id", zero), pi(vr(0), vr(1)), lam(vr(0), vr(0)))), Want: lam(srt(zero), lam(vr(0), vr(0))), Steps: 3},
		"id, of a function":         {X: lam(n, apply(con("id", zero), unary, f, vr(0))), Want: f, Steps: 3},
		"the same name at levels":   {X: apply(con("Pair", two, zero), apply(con("id", two), srt(two), srt(zero)), con("one")), Want: apply(con("Pair", two, zero), srt(zero), num(1)), Steps: 4},
		"a lambda for a definition": {X: lam(n, app(con("double"), vr(0))), Want: lam(n, plus(vr(0), vr(0))), Steps: 5},
	} {
		becomes(t, what, e, c.X, c.Want, c.Steps)
	}
}

// All reckoning is as it is with numbers.
func TestTheSampleReckons(t *testing.T) {
	e := basis(t)
	for what, c := range sample.Reckonings() {
		if got, _, f := Form(e, c.X, 1<<20); f != api.OK || text(got) != text(num(c.Want)) {
			t.Errorf("%s: error %d, %.300s, want %d", what, f, text(got), c.Want)
		}
	}
}

// All names of the sample, at any number of levels, of any number of arguments.
func TestTheNamesOfTheSample(t *testing.T) {
	e := basis(t)
	for _, x := range sample.Rows() {
		for _, y := range []api.Term{x, both(x), lam(n, app(lifted(x), vr(0)))} {
			obeyed(t, e, y, 80)
		}
	}
}

// Small terms of all kinds.
func TestSmallTerms(t *testing.T) {
	e := filled(t, sample.SmallInfos()...)
	for _, x := range sample.Some(3) {
		for _, y := range []api.Term{x, app(con("B", two), app(con("A"), x)), app(con("B.b'"), prj("P", 0, x)), lam(n, app(lifted(x), vr(0))), app(lam(n, lifted(x)), a)} {
			obeyed(t, e, y, 25)
		}
	}
}
