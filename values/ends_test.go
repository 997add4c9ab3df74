package values

import (
	"math"
	"testing"

	"batten/api"
	"batten/env"
	"batten/reduce"
	"batten/sample"
	"batten/term"
)

// P11.1, R1: what has no type, among it what has no end, and what goes deep. The call ends.

func loose(t *testing.T) *env.Env {
	t.Helper()
	return basis(t, sample.Loose())
}

func TestWithoutAnEnd(t *testing.T) {
	e := loose(t)
	for what, x := range sample.EndlessHeads() {
		for _, fuel := range []int{0, 1, 2, 3, 10, 1000, 10000, 100000} {
			ends(t, what, e, x, fuel)
			ends(t, what+", dropped", e, app(lam(n, a), x), fuel)
			ends(t, what+", looked at", e, count(first(x)), fuel)
		}
		has(t, what+", dropped", e, app(lam(n, a), x), is{api.Const, "a", 0}, 1)
		has(t, what+", as a field", e, second(mk(x, a)), is{api.Const, "a", 0}, 1)
		has(t, what+", waiting", e, app(f, x), is{api.Const, "f", 1}, 0)
		has(t, what+", below a binder", e, lam(x, x), is{api.Lam, "", 0}, 0)
	}
	for _, what := range []string{"itself", "in a let", "of a definition", "within a recursor", "within many", "in what a field is", "what is twice as great", "what is deeper, and looks"} {
		for _, fuel := range []int{0, 1, 10, 1000, 100000} {
			fails(t, what, e, sample.EndlessHeads()[what], fuel, api.ErrFuel)
		}
	}
}

// Where no fuel goes out, as it has no end, something else does.
func TestWithoutAnEndAndWithFuel(t *testing.T) {
	e := loose(t)
	again := app(vr(0), vr(0))
	for _, fuel := range []int{1 << 24, 1 << 40, math.MaxInt} {
		fails(t, "what is longer each time", e, sample.EndlessHeads()["what is longer each time"], fuel, api.ErrFuel)
	}
	fails(t, "what waits for itself", e, sample.Self(sample.OfDepth(64, again, first)), 1<<30, api.ErrFuel)
	fails(t, "that, in a recursor", e, sample.Self(sample.OfDepth(100, again, count)), math.MaxInt, api.ErrFuel)
}

// What there is to apply when there is no type.
func TestApplyOfWhatHasNoType(t *testing.T) {
	e := loose(t)
	var l []*Value
	for _, x := range []api.Term{
		lam(n, app(vr(0), vr(0))), con("loose", two), srt(zero), pi(n, n), num(0), num(1), first(p), count(a), recN, apply(recN, n, n, n),
		lam(n, count(app(vr(0), vr(0)))), lam(n, first(app(vr(0), vr(0)))), lam(n, lam(n, apply(vr(1), vr(1), app(vr(0), vr(0))))), apply(f, sample.Self(app(vr(0), vr(0)))),
		lam(n, let(n, vr(0), app(vr(0), vr(0)))), mk(a, sample.Self(app(vr(0), vr(0)))), lam(n, first(vr(0))), lam(n, second(vr(0))), lam(n, apply(recN, n, vr(0), vr(0), vr(0))),
	} {
		l = append(l, of(t, e, x))
	}
	for _, v := range l {
		for _, u := range l {
			for _, fuel := range []int{0, 1, 5, 1000, 20000} {
				r, left, f := v.Apply(u, fuel)
				if f == api.ErrFuel {
					none(t, "without a type", r, left, f, api.ErrFuel)
					continue
				}
				some(t, "without a type", r, left, f, tells(r), left)
				if left < 0 || left > fuel || r.Kind() == 0 {
					t.Fatalf("%v, left %d of %d", tells(r), left, fuel)
				}
			}
		}
	}
}

// As much as may be, and more, behind a step; what does not wait for it is told.
func TestWhatIsTooGreat(t *testing.T) {
	e := basis(t)
	many := func(x api.Term, k int) api.Term {
		for range k {
			x = app(x, a)
		}
		return x
	}
	half := api.TopDepth / 2
	has(t, "as many as may be", e, many(vr(0), api.TopDepth-1), is{api.Var, "", api.TopDepth - 1}, 0)
	has(t, "as many as may be, behind a step", e, app(lam(n, many(vr(0), half)), many(f, half-1)), is{api.Const, "f", api.TopDepth - 1}, 1)
	has(t, "as many as may be, in a let", e, let(n, many(f, half), many(vr(0), half-1)), is{api.Const, "f", api.TopDepth - 1}, 1)
	for _, fuel := range []int{0, 1, 2, 1 << 40, math.MaxInt} {
		fails(t, "more, behind a step", e, app(lam(n, many(vr(0), half)), many(f, half)), fuel, api.ErrFuel)
		fails(t, "more, in a let", e, let(n, many(f, half), many(vr(0), half)), fuel, api.ErrFuel)
		fails(t, "more, within", e, count(first(app(lam(n, many(vr(0), half)), many(f, half)))), fuel, api.ErrFuel)
	}
}

// deeper: what is k times looked at, of a, made by as many steps as that asks for, with none where it is looked at.
func deeper(k int) api.Term {
	next := lam(n, lam(unary, lam(n, app(vr(1), apply(recN, n, n, n, vr(0))))))
	return apply(recN, lam(n, unary), lam(n, vr(0)), next, sample.Power(k), a)
}

// What waits for one another without a step between: as many as a term may have; no more.
func TestWhatWaitsWithoutAStep(t *testing.T) {
	e := basis(t)
	w, left, f := reduce.Head(e, deeper(8), 1<<20)
	if f != api.OK {
		t.Fatalf("error %d", f)
	}
	has(t, "256 times", e, deeper(8), headOf(w), 1<<20-left)
	for _, fuel := range []int{100, 1 << 40} {
		fails(t, "as often as no term may be", e, deeper(15), fuel, api.ErrFuel)
	}
}

// A number's being odd waits for that of the one below it, and so on: as deep as the number is great. Nothing calls itself.
func TestDeepWithin(t *testing.T) {
	e := basis(t)
	obeyed(t, e, sample.Odd(sample.Power(6)), 1<<20)
	v, _, f := Of(e, sample.Odd(succ(sample.Power(15))), 1<<30)
	if f != api.OK || tells(v) != (is{api.Const, "N.succ", 1}) {
		t.Fatalf("error %d, %v", f, tells(v))
	}
	v, _, f = Of(e, sample.Odd(sample.Power(15)), 1<<30)
	if f != api.OK || tells(v) != (is{api.Const, "N.zero", 0}) {
		t.Fatalf("error %d, %v", f, tells(v))
	}
	at, stuck, fields := num(0), vr(3), p
	for range 800 {
		at, stuck = apply(recN, n, num(0), n, at), apply(recN, n, num(0), n, stuck)
	}
	for range api.TopDepth - 1 {
		fields = first(fields)
	}
	has(t, "at 0", e, at, is{api.Const, "N.zero", 0}, 3200)
	has(t, "at a variable", e, stuck, is{api.Const, "N.rec", 4}, 0)
	has(t, "of p", e, fields, is{api.Proj, "Pair", 0}, 0)
	if !term.May(fields) {
		t.Error("too deep")
	}
}
