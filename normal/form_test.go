package normal

import (
	"testing"

	"batten/api"
	"batten/sample"
)

// P10.1: what is put into its form, without anything that is contracted.

// In normal forms there is no step, and nothing that is contracted: they stay.
func TestFormsStay(t *testing.T) {
	e := basis(t, theorem(0, "t", n, num(1)), api.Info{Kind: api.IsType, Name: "V", Type: srt(zero), Value: n})
	stuck := apply(recN, n, n, n, a)
	for what, x := range map[string]api.Term{
		"a sort":                     srt(sample.Great),
		"a sort, applied":            app(srt(two), a),
		"a variable":                 vr(0),
		"the farthest one":           vr(sample.Far),
		"a variable, applied":        apply(vr(3), vr(0), a),
		"a lambda":                   lam(n, vr(0)),
		"a lambda of a lambda":       lam(n, lam(n, app(vr(0), vr(1)))),
		"functions":                  unary,
		"functions, applied":         apply(pi(n, vr(0)), a, a),
		"functions of Var 0":         pi(n, app(f, vr(0))),
		"an axiom":                   a,
		"an axiom, applied":          apply(f, a, vr(0)),
		"a theorem":                  con("t"),
		"a theorem, applied":         app(con("t"), a),
		"a type with a Value":        con("V"),
		"a name that is none":        app(con("none", two), a),
		"one at a level":             app(con("one", zero), a),
		"swap at one":                con("swap", two),
		"a number":                   num(5),
		"a pair":                     mk(a, vr(0)),
		"the axiom of pairs":         p,
		"a field of it":              first(p),
		"a field, applied":           apply(second(p), a, vr(1)),
		"a field of a variable":      prj("Pair", 7, vr(3)),
		"a field of no structure":    prj("N", 0, num(1)),
		"a recursor":                 recN,
		"a recursor of three":        apply(recN, n, n, n),
		"a recursor that is stuck":   stuck,
		"that, applied":              apply(stuck, a, vr(0)),
		"that, within":               apply(recN, stuck, stuck, stuck, first(stuck)),
		"a lambda of what is stuck":  lam(stuck, lam(stuck, apply(recN, n, n, n, vr(1)))),
		"a list":                     apply(con("List.cons", zero), n, a, app(con("List.nil", zero), n)),
		"a recursor, of lists":       apply(con("List.rec", zero, zero), n, n, n, n, vr(0)),
		"a recursor, without levels": apply(con("N.rec"), n, n, n, num(1)),
	} {
		stays(t, what, e, x)
	}
}

// around: where a term may stand in a weak head, so that it is put into its form, and nothing else.
func around() map[string]func(x api.Term) api.Term {
	return map[string]func(x api.Term) api.Term{
		"what f is of":               func(x api.Term) api.Term { return app(f, x) },
		"the first of three":         func(x api.Term) api.Term { return apply(f, x, a, vr(0)) },
		"the second of three":        func(x api.Term) api.Term { return apply(vr(1), a, x, vr(0)) },
		"the third of three":         func(x api.Term) api.Term { return apply(con("none"), a, vr(0), x) },
		"what a sort is of":          func(x api.Term) api.Term { return app(srt(zero), x) },
		"a lambda's domain":          func(x api.Term) api.Term { return lam(x, a) },
		"a lambda's body":            func(x api.Term) api.Term { return lam(n, lifted(x)) },
		"a Pi's domain":              func(x api.Term) api.Term { return pi(x, a) },
		"a Pi's body":                func(x api.Term) api.Term { return pi(n, lifted(x)) },
		"an applied Pi's domain":     func(x api.Term) api.Term { return apply(pi(x, n), a, a) },
		"an applied Pi's body":       func(x api.Term) api.Term { return app(pi(n, lifted(x)), a) },
		"what a Pi is of":            func(x api.Term) api.Term { return apply(unary, a, x) },
		"what a Proj is of":          func(x api.Term) api.Term { return prj("Pair", 0, app(f, x)) },
		"what an applied Proj is of": func(x api.Term) api.Term { return apply(prj("N", 1, app(f, x)), a, a) },
		"what a Proj is applied to":  func(x api.Term) api.Term { return apply(first(p), a, x) },
		"a motive":                   func(x api.Term) api.Term { return apply(recN, x, n, n, a) },
		"a minor":                    func(x api.Term) api.Term { return apply(recN, n, n, x, a) },
		"within the major one":       func(x api.Term) api.Term { return apply(recN, n, n, n, app(f, x)) },
		"behind the major one":       func(x api.Term) api.Term { return apply(recN, n, n, n, a, a, x) },
		"of a recursor of too few":   func(x api.Term) api.Term { return apply(recN, n, n, x) },
		"one more than it":           func(x api.Term) api.Term { return succ(x) },
		"a pair's type":              func(x api.Term) api.Term { return apply(con("Pair.mk", zero, zero), x, n, a, a) },
		"in a pair":                  func(x api.Term) api.Term { return mk(a, x) },
		"deep within":                func(x api.Term) api.Term { return lam(n, pi(n, app(f, prj("P", 0, app(f, lifted(lifted(x))))))) },
	}
}

// All that a weak head is made of is put into its form: each way there, wherever it stands.
func TestWhatIsWithin(t *testing.T) {
	e := basis(t)
	ways := map[string]struct {
		x, want api.Term
		steps   int
	}{
		"a lambda":              {app(lam(n, app(f, vr(0))), a), app(f, a), 1},
		"a let":                 {let(n, a, apply(f, vr(0), vr(1))), apply(f, a, vr(0)), 1},
		"a definition":          {con("one"), num(1), 1},
		"id":                    {id(vr(4)), vr(4), 3},
		"a recursor":            {count(num(2)), num(2), 7 + 7 + 4},
		"a projection":          {second(mk(a, f)), f, 1},
		"a sum":                 {add(num(1), num(1)), num(2), 14},
		"one within another":    {app(lam(n, app(f, con("one"))), a), app(f, num(1)), 2},
		"two, beside another":   {apply(f, con("one"), id(a)), apply(f, num(1), a), 4},
		"one in a lambda":       {lam(con("one"), con("one")), lam(num(1), num(1)), 2},
		"a lambda that is left": {app(lam(n, lam(n, vr(1))), vr(2)), lam(n, vr(3)), 1},
	}
	for what, c := range ways {
		becomes(t, what, e, c.x, c.want, c.steps)
		for where, in := range around() {
			becomes(t, what+": "+where, e, in(c.x), in(c.want), c.steps)
		}
	}
}

// Of what is looked at just the weak head is taken further, if there is a rule; what is dropped takes no fuel.
func TestWhatIsDropped(t *testing.T) {
	e := basis(t)
	dear := count(num(3))
	becomes(t, "by a lambda", e, app(lam(n, a), dear), a, 1)
	becomes(t, "by a let", e, let(dear, dear, a), a, 1)
	becomes(t, "by a field", e, first(mk(a, dear)), a, 1)
	becomes(t, "by a recursor", e, apply(recN, dear, a, dear, num(0)), a, 4)
	becomes(t, "by a recursor, of what it is not asked for", e, apply(recN, dear, dear, lam(n, lam(n, a)), succ(dear)), a, 7)
	becomes(t, "used twice", e, app(lam(n, apply(f, vr(0), vr(0))), con("one")), apply(f, num(1), num(1)), 3)
}

// Each step of a form takes fuel, wherever it stands: one by one they go out.
func TestEachStepTakesFuel(t *testing.T) {
	e := basis(t)
	x, want := con("one"), num(1)
	for steps := 1; steps < 12; steps++ {
		becomes(t, "so many", e, x, want, steps)
		x, want = apply(f, con("one"), x), apply(f, num(1), want)
	}
	x, want = a, a
	for steps := range 12 {
		becomes(t, "so deep", e, x, want, steps)
		x, want = let(n, n, pi(n, lifted(lifted(x)))), pi(n, lifted(want))
	}
}

// The first one first, those of the head ahead of those that it is applied to: behind what is too great nothing is asked for, be it without an end.
func TestTheFirstOneFirst(t *testing.T) {
	e := basis(t, axiom(0, "S", n), def(0, "great", n, app(f, sample.OfSizeClosed(api.TopTerm-2))))
	great, endless := app(con("great"), n), app(lam(n, app(vr(0), vr(0))), lam(n, app(vr(0), vr(0))))
	for what, x := range map[string]api.Term{
		"of f":                     apply(f, great, endless),
		"of f, behind another":     apply(f, a, great, endless),
		"of three":                 apply(vr(0), great, endless, endless),
		"of a lambda":              lam(great, endless),
		"of a Pi":                  pi(great, endless),
		"of a Pi, ahead of more":   apply(pi(n, great), endless),
		"of a Pi, the first":       apply(pi(great, n), endless, endless),
		"of a Proj":                apply(prj("Pair", 0, app(f, great)), endless),
		"of a recursor":            apply(recN, great, endless, n, a),
		"of the major one":         apply(recN, n, n, n, app(f, great), endless),
		"of a constructor":         apply(con("Pair.mk", zero, zero), great, endless, n, n),
		"of a constructor's field": mk(great, endless),
		"within":                   apply(f, apply(f, a, lam(great, n)), endless),
	} {
		ends(t, what, e, x)
	}
	if v, f := Alike(e, great, endless, 1<<62); v != api.Unsure || f != api.OK {
		t.Errorf("%d, error %d", v, f)
	}
}
