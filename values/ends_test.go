package values

import (
	"math"
	"testing"

	"batten/api"
	"batten/env"
	"batten/reduce"
	"batten/sample"
	"batten/term"
)

// P11.1, R1: what has no type, among it what has no end, and what goes deep. The call ends.

// self: what does to itself what the body does to the variable 0.
func self(body api.Term) api.Term { return app(lam(n, body), lam(n, body)) }

// endless: terms that go on without an end, one step or more each time.
func endless() map[string]api.Term {
	again := app(vr(0), vr(0))
	return map[string]api.Term{
		"itself":                       self(again),
		"in a let":                     self(let(n, vr(0), again)),
		"in a let of itself":           self(let(n, again, vr(0))),
		"of a definition":              self(apply(con("id", zero), n, again)),
		"within a recursor":            self(count(again)),
		"within a projection":          self(first(again)),
		"within many":                  self(first(second(count(first(second(again)))))),
		"within both":                  self(second(apply(recN, n, n, n, again))),
		"in what a field is":           self(second(mk(n, again))),
		"in what a recursor becomes":   self(apply(recN, n, again, n, num(0))),
		"what is longer each time":     self(apply(vr(0), vr(0), apply(f, con("one"), vr(0)))),
		"what is twice as great":       app(self(lam(n, apply(vr(1), vr(1), apply(f, vr(0), vr(0))))), n),
		"what is deeper":               app(self(lam(n, apply(vr(1), vr(1), app(f, app(f, vr(0)))))), n),
		"what is deeper, and looks":    app(self(lam(n, apply(vr(1), vr(1), count(first(vr(0)))))), a),
		"what is deeper, by itself":    self(app(lam(n, app(vr(1), vr(1))), vr(0))),
		"by a loose definition":        app(con("loose", zero), con("loose", zero)),
		"by that, of a pair":           first(app(con("loose", zero), lam(n, mk(app(vr(0), vr(0)), first(app(vr(0), vr(0))))))),
		"a lambda within":              self(lam(n, apply(vr(1), vr(1), vr(0)))),
		"three of itself":              app(lam(n, apply(vr(0), vr(0), vr(0))), lam(n, apply(vr(0), vr(0), vr(0)))),
		"a recursor at what has none":  apply(con("List.rec", zero, zero), n, n, n, n, self(again)),
		"what is dropped has none too": app(lam(n, self(again)), self(again)),
	}
}

func loose(t *testing.T) *env.Env {
	t.Helper()
	return basis(t, def(1, "loose", srt(zero), lam(n, app(vr(0), vr(0)))))
}

func TestWithoutAnEnd(t *testing.T) {
	e := loose(t)
	for what, x := range endless() {
		for _, fuel := range []int{0, 1, 2, 3, 10, 1000, 10000, 100000} {
			ends(t, what, e, x, fuel)
			ends(t, what+", dropped", e, app(lam(n, a), x), fuel)
			ends(t, what+", looked at", e, count(first(x)), fuel)
		}
		has(t, what+", dropped", e, app(lam(n, a), x), is{api.Const, "a", 0}, 1)
		has(t, what+", as a field", e, second(mk(x, a)), is{api.Const, "a", 0}, 1)
		has(t, what+", waiting", e, app(f, x), is{api.Const, "f", 1}, 0)
		has(t, what+", below a binder", e, lam(x, x), is{api.Lam, "", 0}, 0)
	}
	for _, what := range []string{"itself", "in a let", "of a definition", "within a recursor", "within many", "in what a field is", "what is twice as great", "what is deeper, and looks"} {
		for _, fuel := range []int{0, 1, 10, 1000, 100000} {
			fails(t, what, e, endless()[what], fuel, api.ErrFuel)
		}
	}
}

// Where no fuel goes out, as it has no end, something else does.
func TestWithoutAnEndAndWithFuel(t *testing.T) {
	e := loose(t)
	again := app(vr(0), vr(0))
	for _, fuel := range []int{1 << 24, 1 << 40, math.MaxInt} {
		fails(t, "what is longer each time", e, endless()["what is longer each time"], fuel, api.ErrFuel)
	}
	fails(t, "what waits for itself", e, self(sample.OfDepth(64, again, first)), 1<<30, api.ErrFuel)
	fails(t, "that, in a recursor", e, self(sample.OfDepth(100, again, count)), math.MaxInt, api.ErrFuel)
}

// What there is to apply when there is no type.
func TestApplyOfWhatHasNoType(t *testing.T) {
	e := loose(t)
	var l []*Value
	for _, x := range []api.Term{
		lam(n, app(vr(0), vr(0))), con("loose", two), srt(zero), pi(n, n), num(0), num(1), first(p), count(a), recN, apply(recN, n, n, n),
		lam(n, count(app(vr(0), vr(0)))), lam(n, first(app(vr(0), vr(0)))), lam(n, lam(n, apply(vr(1), vr(1), app(vr(0), vr(0))))), apply(f, self(app(vr(0), vr(0)))),
		lam(n, let(n, vr(0), app(vr(0), vr(0)))), mk(a, self(app(vr(0), vr(0)))), lam(n, first(vr(0))), lam(n, second(vr(0))), lam(n, apply(recN, n, vr(0), vr(0), vr(0))),
	} {
		l = append(l, of(t, e, x))
	}
	for _, v := range l {
		for _, u := range l {
			for _, fuel := range []int{0, 1, 5, 1000, 20000} {
				r, left, f := v.Apply(u, fuel)
				if f == api.ErrFuel {
					none(t, "without a type", r, left, f, api.ErrFuel)
					continue
				}
				some(t, "without a type", r, left, f, tells(r), left)
				if left < 0 || left > fuel || r.Kind() == 0 {
					t.Fatalf("%v, left %d of %d", tells(r), left, fuel)
				}
			}
		}
	}
}

// As much as may be, and more, behind a step; what does not wait for it is told.
func TestWhatIsTooGreat(t *testing.T) {
	e := basis(t)
	many := func(x api.Term, k int) api.Term {
		for range k {
			x = app(x, a)
		}
		return x
	}
	half := api.TopDepth / 2
	has(t, "as many as may be", e, many(vr(0), api.TopDepth-1), is{api.Var, "", api.TopDepth - 1}, 0)
	has(t, "as many as may be, behind a step", e, app(lam(n, many(vr(0), half)), many(f, half-1)), is{api.Const, "f", api.TopDepth - 1}, 1)
	has(t, "as many as may be, in a let", e, let(n, many(f, half), many(vr(0), half-1)), is{api.Const, "f", api.TopDepth - 1}, 1)
	for _, fuel := range []int{0, 1, 2, 1 << 40, math.MaxInt} {
		fails(t, "more, behind a step", e, app(lam(n, many(vr(0), half)), many(f, half)), fuel, api.ErrFuel)
		fails(t, "more, in a let", e, let(n, many(f, half), many(vr(0), half)), fuel, api.ErrFuel)
		fails(t, "more, within", e, count(first(app(lam(n, many(vr(0), half)), many(f, half)))), fuel, api.ErrFuel)
	}
}

// deeper: what is k times looked at, of a, made by as many steps as that asks for, with none where it is looked at.
func deeper(k int) api.Term {
	next := lam(n, lam(unary, lam(n, app(vr(1), apply(recN, n, n, n, vr(0))))))
	return apply(recN, lam(n, unary), lam(n, vr(0)), next, power(k), a)
}

// What waits for one another without a step between: as many as a term may have; no more.
func TestWhatWaitsWithoutAStep(t *testing.T) {
	e := basis(t)
	w, left, f := reduce.Head(e, deeper(8), 1<<20)
	if f != api.OK {
		t.Fatalf("error %d", f)
	}
	has(t, "256 times", e, deeper(8), headOf(w), 1<<20-left)
	for _, fuel := range []int{100, 1 << 40} {
		fails(t, "as often as no term may be", e, deeper(15), fuel, api.ErrFuel)
	}
}

// A number's being odd waits for that of the one below it, and so on: as deep as the number is great. Nothing calls itself.
func TestDeepWithin(t *testing.T) {
	e := basis(t)
	obeyed(t, e, odd(power(6)), 1<<20)
	v, _, f := Of(e, odd(succ(power(15))), 1<<30)
	if f != api.OK || tells(v) != (is{api.Const, "N.succ", 1}) {
		t.Fatalf("error %d, %v", f, tells(v))
	}
	v, _, f = Of(e, odd(power(15)), 1<<30)
	if f != api.OK || tells(v) != (is{api.Const, "N.zero", 0}) {
		t.Fatalf("error %d, %v", f, tells(v))
	}
	at, stuck, fields := num(0), vr(3), p
	for range 800 {
		at, stuck = apply(recN, n, num(0), n, at), apply(recN, n, num(0), n, stuck)
	}
	for range api.TopDepth - 1 {
		fields = first(fields)
	}
	has(t, "at 0", e, at, is{api.Const, "N.zero", 0}, 3200)
	has(t, "at a variable", e, stuck, is{api.Const, "N.rec", 4}, 0)
	has(t, "of p", e, fields, is{api.Proj, "Pair", 0}, 0)
	if !term.May(fields) {
		t.Error("too deep")
	}
}
