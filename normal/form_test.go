package normal

import (
	"testing"

	"batten/api"
	"batten/sample"
)

// P10.1: what is put into its form, without anything that is contracted.

// In normal forms there is no step, and nothing that is contracted: they stay.
func TestFormsStay(t *testing.T) {
	e := basis(t, sample.Strangers()...)
	for what, x := range sample.Forms() {
		stays(t, what, e, x)
	}
}

// All that a weak head is made of is put into its form: each way there, wherever it stands.
func TestWhatIsWithin(t *testing.T) {
	e := basis(t)
	for what, c := range sample.Unformed() {
		becomes(t, what, e, c.X, c.Want, c.Steps)
		for where, in := range sample.Places(lifted) {
			becomes(t, what+": "+where, e, in(c.X), in(c.Want), c.Steps)
		}
	}
}

// Of what is looked at just the weak head is taken further, if there is a rule; what is dropped takes no fuel.
func TestWhatIsDropped(t *testing.T) {
	e := basis(t)
	dear := count(num(3))
	becomes(t, "by a lambda", e, app(lam(n, a), dear), a, 1)
	becomes(t, "by a let", e, let(dear, dear, a), a, 1)
	becomes(t, "by a field", e, first(mk(a, dear)), a, 1)
	becomes(t, "by a recursor", e, apply(recN, dear, a, dear, num(0)), a, 4)
	becomes(t, "by a recursor, of what it is not asked for", e, apply(recN, dear, dear, lam(n, lam(n, a)), succ(dear)), a, 7)
	becomes(t, "used twice", e, app(lam(n, apply(f, vr(0), vr(0))), con("one")), apply(f, num(1), num(1)), 3)
}

// Each step of a form takes fuel, wherever it stands: one by one they go out.
func TestEachStepTakesFuel(t *testing.T) {
	e := basis(t)
	x, want := con("one"), num(1)
	for steps := 1; steps < 12; steps++ {
		becomes(t, "so many", e, x, want, steps)
		x, want = apply(f, con("one"), x), apply(f, num(1), want)
	}
	x, want = a, a
	for steps := range 12 {
		becomes(t, "so deep", e, x, want, steps)
		x, want = let(n, n, pi(n, lifted(lifted(x)))), pi(n, lifted(want))
	}
}

// The first one first, those of the head ahead of those that it is applied to: behind what is too great nothing is asked for, be it without an end.
func TestTheFirstOneFirst(t *testing.T) {
	e := basis(t, axiom(0, "S", n), def(0, "great", n, app(f, sample.OfSizeClosed(api.TopTerm-2))))
	great, endless := app(con("great"), n), app(lam(n, app(vr(0), vr(0))), lam(n, app(vr(0), vr(0))))
	for what, x := range map[string]api.Term{
		"of f":                     apply(f, great, endless),
		"of f, behind another":     apply(f, a, great, endless),
		"of three":                 apply(vr(0), great, endless, endless),
		"of a lambda":              lam(great, endless),
		"of a Pi":                  pi(great, endless),
		"of a Pi, ahead of more":   apply(pi(n, great), endless),
		"of a Pi, the first":       apply(pi(great, n), endless, endless),
		"of a Proj":                apply(prj("Pair", 0, app(f, great)), endless),
		"of a recursor":            apply(recN, great, endless, n, a),
		"of the major one":         apply(recN, n, n, n, app(f, great), endless),
		"of a constructor":         apply(con("Pair.mk", zero, zero), great, endless, n, n),
		"of a constructor's field": mk(great, endless),
		"within":                   apply(f, apply(f, a, lam(great, n)), endless),
	} {
		ends(t, what, e, x)
	}
	if v, f := Alike(e, great, endless, 1<<62); v != api.Unsure || f != api.OK {
		t.Errorf("%d, error %d", v, f)
	}
}
