package quote

import (
	"math"
	"testing"

	"batten/api"
	"batten/env"
	"batten/normal"
	"batten/sample"
)

// P12.1, R1: what has no type, among it what has no end, and what is too great. The call ends.

func TestWithoutAnEnd(t *testing.T) {
	e := basis(t, sample.Loose())
	for what, x := range sample.EndlessHeads() {
		for _, y := range []api.Term{x, lam(n, x), pi(x, n), app(f, x), mk(a, x), count(first(x)), lam(x, app(f, vr(0)))} {
			for _, fuel := range []int{0, 1, 2, 3, 10, 1000, 10000} {
				ends(t, what, e, y, fuel)
			}
		}
		ends(t, what, e, x, 100000)
	}
	for what, x := range sample.EndlessForms() {
		for _, fuel := range []int{0, 1, 2, 3, 10, 100, 3000, 30000} {
			fails(t, what, e, x, fuel, api.ErrFuel)
			fails(t, what+", within", e, lam(n, apply(f, x, vr(0))), fuel, api.ErrFuel)
		}
	}
}

// What grows without an end is too great, however much fuel there is.
func TestWhatGrows(t *testing.T) {
	e := basis(t, axiom(0, "S", n))
	for what, x := range sample.Growing() {
		fails(t, what, e, x, math.MaxInt, api.ErrFuel)
	}
	for what, x := range sample.Lost() {
		fails(t, what, e, x, math.MaxInt, api.ErrFuel)
	}
}

// Any terms of small ones that are applied to themselves.
func TestWhatHasNoType(t *testing.T) {
	e := basis(t, sample.Loose())
	l := sample.Untyped()
	for _, x := range l {
		for _, y := range l {
			for _, fuel := range []int{0, 1, 5, 1000, 20000} {
				ends(t, "without a type", e, app(x, y), fuel)
				ends(t, "without a type", e, lam(n, apply(x, y, vr(0))), fuel)
				ends(t, "without a type", e, mk(app(x, y), app(y, x)), fuel)
			}
		}
	}
}

// What is contracted is not read again and again: as a term it would be too great.
func TestWhatIsLostAgainAndAgain(t *testing.T) {
	e := basis(t)
	becomes(t, "none", e, sample.Chained(0), n, 1)
	for k := 1; k < 12; k++ {
		becomes(t, "so often", e, sample.Chained(k), apply(f, f, f), k+1)
	}
	for _, k := range []int{16, 20, 60, 500} {
		if _, _, f := normal.Form(e, sample.Chained(k), math.MaxInt); f != api.ErrFuel {
			t.Fatalf("%d: error %d", k, f)
		}
		for _, fuel := range []int{k, k + 1, 10000, math.MaxInt} {
			fails(t, "too often", e, sample.Chained(k), fuel, api.ErrFuel)
			ends(t, "too often, behind steps", e, apply(f, id(sample.Chained(k)), let(n, sample.Chained(k), lam(vr(0), app(f, vr(0))))), fuel)
		}
	}
}

// great: an environment with definitions that are as great as may be, or half so.
func great(t *testing.T) *env.Env {
	t.Helper()
	return filled(t, sample.GreatInfos()...)
}

// As great as may be, and more, in each kind of what is put together: a form, or none, as in normal.
func TestWhatIsTooGreat(t *testing.T) {
	e := great(t)
	fits, not := 0, 0
	for _, x := range sample.Limits() {
		want, left, g := normal.Form(e, x, 10)
		if g == api.OK {
			fits++
			tells(t, "as great as may be", e, x, 10, want, left)
			continue
		}
		not++
		fails(t, "too great", e, x, math.MaxInt, api.ErrFuel)
	}
	if fits < 20 || not < 20 {
		t.Errorf("%d, and %d too great", fits, not)
	}
}

// What is lost by contraction may be great, again and again, if each time a step makes it, or it stands there.
func TestGreatThingsThatAreLost(t *testing.T) {
	e := great(t)
	lost := func(x api.Term) api.Term { return lam(x, app(f, vr(0))) }
	bulky := sample.OfSizeClosed(api.TopTerm - 101)
	e.Add(def(0, "bulky", n, bulky), def(0, "both", n, apply(f, lost(con("bulky")), lost(bulky))))
	becomes(t, "by steps", e, apply(f, lost(con("half")), lost(con("half")), lost(con("half")), lost(con("half"))), apply(f, f, f, f, f), 4)
	becomes(t, "one step for each", e, apply(f, lost(con("bulky")), lam(n, apply(f, lost(con("bulky")), vr(0), vr(0)))), apply(f, f, lam(n, apply(f, f, vr(0), vr(0)))), 2)
	becomes(t, "behind steps", e, apply(f, con("both"), lost(bulky)), apply(f, apply(f, f, f), f), 2)
	becomes(t, "one within another", e, lost(lost(app(f, lost(con("both"))))), f, 2)
}

// Great numbers: as deep as may be, and more.
func TestGreatNumbers(t *testing.T) {
	e := basis(t)
	for k, fuel := range map[int]int{5: 2000, 11: 1 << 20} {
		want, left, f := normal.Form(e, sample.Power(k), fuel)
		if f != api.OK {
			t.Fatalf("error %d", f)
		}
		tells(t, "a power", e, sample.Power(k), fuel, want, left)
		tells(t, "a power, as much as enough", e, sample.Power(k), enough(fuel-left), want, enough(fuel-left)-fuel+left)
		fails(t, "a power, with less", e, sample.Power(k), fuel-left-1, api.ErrFuel)
	}
	fails(t, "a power that is too great", e, sample.Power(12), math.MaxInt, api.ErrFuel)
	obeyed(t, e, sample.Odd(sample.Power(6)), 1<<20)
	if got, _, f := Form(e, sample.Odd(succ(sample.Power(13))), 1<<30); f != api.OK || text(got) != text(num(1)) { // all that is below waits for it
		t.Errorf("error %d, %.300s", f, text(got))
	}
}
