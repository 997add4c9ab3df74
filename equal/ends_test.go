package equal

import (
	"math"
	"slices"
	"testing"

	"batten/api"
	"batten/normal"
	"batten/sample"
	"batten/term"
)

// P13.1, R1: what has no type, among it what has no end, and what is too great. The call ends.

func TestWithoutAnEnd(t *testing.T) {
	e := basis(t, sample.Loose())
	for what, x := range sample.EndlessHeads() {
		for _, y := range []api.Term{x, lam(n, x), pi(x, n), app(f, x), mk(a, x), count(first(x)), lam(x, app(f, vr(0))), a, p, f} {
			for _, fuel := range []int{0, 1, 3, 10, 1000} {
				ends(t, what, e, x, y, fuel)
				ends(t, what, e, y, x, fuel)
				ends(t, what, e, y, y, fuel)
			}
		}
		ends(t, what, e, x, x, 100000)
	}
	for what, x := range sample.EndlessForms() {
		says(t, what, e, x, x, 30000, api.Unsure, 0)
		for _, fuel := range []int{0, 1, 2, 10, 2000} {
			says(t, what, e, x, x, fuel, api.Unsure, 0)
			says(t, what+", within", e, lam(n, apply(f, x, vr(0))), lam(n, apply(f, x, vr(0))), fuel, api.Unsure, 0)
			for _, y := range []api.Term{a, p, f, con("N.succ"), app(f, x), lam(n, app(lifted(x), vr(0))), paired(x)} {
				ends(t, what, e, x, y, fuel)
				ends(t, what, e, y, x, fuel)
			}
		}
	}
}

// What grows without an end is too great, however much fuel there is.
func TestWhatGrows(t *testing.T) {
	e := basis(t, axiom(0, "S", n))
	for what, x := range sample.Growing() {
		says(t, what, e, x, x, math.MaxInt, api.Unsure, 0)
		says(t, what+", within", e, lam(n, app(f, lifted(x))), app(lam(n, lam(n, app(f, vr(1)))), x), math.MaxInt, api.Unsure, 0)
	}
	for what, x := range sample.Lost() {
		says(t, what, e, x, x, math.MaxInt, api.Unsure, 0)
	}
}

// Any terms of small ones that are applied to themselves, and to one another.
func TestWhatHasNoType(t *testing.T) {
	e := basis(t, sample.Loose())
	l := sample.Untyped()
	for i, x := range l {
		for _, y := range l {
			for _, fuel := range []int{0, 1, 5, 1000, 20000} {
				ends(t, "without a type", e, app(x, y), app(x, y), fuel)
				ends(t, "without a type", e, app(x, y), app(y, l[(i+1)%len(l)]), fuel)
				ends(t, "without a type", e, lam(n, apply(x, y, vr(0))), app(x, y), fuel)
				ends(t, "without a type", e, mk(app(x, y), app(y, x)), app(x, y), fuel)
				ends(t, "without a type", e, paired(app(x, y)), mk(app(x, y), app(y, x)), fuel)
			}
		}
	}
}

// Of terms of which normal tells no form, as they are too great, there may be a verdict. Those that are as great as may be are as it says.
func TestWhatIsTooGreat(t *testing.T) {
	e := filled(t, sample.GreatInfos()...)
	fits, not := 0, 0
	for _, x := range sample.Limits() {
		w, left, g := normal.Form(e, x, 10)
		if g != api.OK {
			not++
			ends(t, "too great", e, x, x, math.MaxInt)
			continue
		}
		fits++
		tells(t, "as great as may be", e, x, w, enough(10-left), api.Alike)
		if v := ends(t, "as great as may be, and another", e, x, app(f, con("none")), enough(10-left)); v != api.Unlike {
			t.Fatalf("%d: %.300s", v, text(x))
		}
	}
	if fits < 20 || not < 20 {
		t.Errorf("%d, and %d too great", fits, not)
	}
}

// As many arguments as may be: of what has one more there is no term, but of what it is held against there may be one.
func TestAsManyArgumentsAsMayBe(t *testing.T) {
	e := basis(t)
	long := func(x api.Term, k int) api.Term { return apply(x, slices.Repeat([]api.Term{a}, k)...) }
	for k := range 5 {
		x := long(f, api.TopDepth-1-k)
		for _, y := range []api.Term{lam(n, vr(0)), lam(n, app(f, vr(0))), lam(n, lam(n, lam(n, lam(n, vr(0))))), mk(a, a), long(f, api.TopDepth-2-k), long(vr(0), api.TopDepth-1-k)} {
			other(t, "as long as may be", e, x, y)
		}
		for what, y := range map[string]api.Term{
			"itself": x, "by a lambda": app(lam(n, vr(0)), x), "by a let within": long(let(n, f, vr(0)), api.TopDepth-1-k), "by a lambda around it": app(lam(n, long(f, api.TopDepth-1-k)), a), "by eta": lam(n, app(x, vr(0))),
		} {
			if term.May(y) {
				same(t, what, e, x, y)
			} else if k > 1 {
				t.Errorf("%d: %s", k, what)
			}
		}
	}
}

// Terms of very many nodes, and of very many that stand in one another, be they alike, or not in the last place alone.
func TestMuch(t *testing.T) {
	e := basis(t, axiom(0, "S", n))
	for _, k := range []int{101, 10001} {
		x := sample.OfSizeClosed(k)
		for _, y := range []api.Term{app(f, a), vr(0)} {
			same(t, "much", e, apply(y, x, a), apply(y, x, a))
			other(t, "much, but the last one", e, apply(y, x, a), apply(y, x, f))
			other(t, "much, but the first one", e, apply(y, a, x), apply(y, f, x))
		}
		same(t, "much, below a lambda", e, lam(x, apply(vr(0), x)), lam(x, apply(vr(0), x)))
		same(t, "much, of a pair", e, paired(app(f, x)), app(f, x))
		other(t, "much, of another pair", e, paired(apply(f, x, a)), apply(f, x, n))
	}
	for i, step := range sample.Steps() {
		for _, k := range []int{100, api.TopDepth} {
			x, y := sample.OfDepth(k, vr(1), step), sample.OfDepth(k, vr(sample.Far/2), step)
			tells(t, "deep", e, x, x, enough(2*k), api.Alike)
			tells(t, "deep, but the last one", e, x, y, enough(2*k), told(i == 6)) // a let loses its type
		}
	}
}

// What is contracted is not come to again and again: as a term it would be too great.
func TestWhatIsLostAgainAndAgain(t *testing.T) {
	e := basis(t)
	for k := range 20 {
		x := sample.Chained(k)
		if n, _, g := normal.Form(e, x, k+1); g == api.OK {
			same(t, "so often", e, x, x)
			same(t, "so often, and its form", e, x, n)
			other(t, "so often, and another", e, x, app(n, a))
			continue
		}
		if k < 12 {
			t.Fatalf("%d", k)
		}
		for _, fuel := range []int{k, 2*k + 2, 10000, math.MaxInt} {
			ends(t, "too often", e, x, x, fuel)
			ends(t, "too often, behind steps", e, apply(f, id(x)), apply(f, x), fuel)
			ends(t, "too often, and another", e, x, apply(f, f, f), fuel)
		}
	}
	for _, k := range []int{60, 500} {
		ends(t, "too often", e, sample.Chained(k), sample.Chained(k), math.MaxInt)
	}
}

// A pair held against what takes many steps: these are made once, not for each field again; and one pair within another likewise.
func TestWhatIsDearIsMadeOnce(t *testing.T) {
	fields := 12
	mkS := api.Info{Kind: api.IsCtor, Name: "S.mk", Type: n, Of: "S", Fields: fields}
	e := basis(t, api.Info{Kind: api.IsType, Name: "S", Type: srt(zero), Record: true}, mkS)
	var of func(x api.Term, deep int) api.Term
	of = func(x api.Term, deep int) api.Term {
		if deep == 0 {
			return x
		}
		s := con("S.mk")
		for i := range fields {
			s = app(s, of(prj("S", i, x), deep-1))
		}
		return s
	}
	sums := app(f, add(num(3), app(con("double"), num(4))))
	steps := formOf(e, sums, 10000).steps
	for deep := range 3 {
		x := of(app(f, num(11)), deep)
		for _, l := range [][2]api.Term{{x, sums}, {sums, x}, {lam(n, apply(f, x, vr(0))), app(f, sums)}, {lam(n, app(lifted(x), vr(0))), sums}} {
			if k := holds(t, "dear", e, l[0], l[1], api.Alike); k > 2*steps {
				t.Errorf("deep %d: %d steps, of %d", deep, k, steps)
			}
		}
		holds(t, "dear, and unlike", e, of(app(f, num(12)), deep), sums, api.Unlike)
		holds(t, "dear on both sides", e, of(sums, min(deep, 1)), sums, api.Alike)
	}
}

// Very many pairs, each held against one and the same great thing: all of them together are too great.
func TestManyPairsOfWhatIsGreat(t *testing.T) {
	e := basis(t, axiom(0, "S", n))
	for _, c := range []struct {
		many, great int
		want        api.Verdict
	}{{1000, 11, api.Alike}, {1000, 5001, api.Unsure}, {3500, 5001, api.Unsure}, {3500, 20001, api.Unsure}} {
		x := let(n, app(f, sample.OfSizeClosed(c.great)), apply(f, slices.Repeat([]api.Term{paired(vr(0))}, c.many)...))
		y := let(n, app(f, sample.OfSizeClosed(c.great)), apply(f, slices.Repeat([]api.Term{vr(0)}, c.many)...))
		tells(t, "many", e, x, y, math.MaxInt, c.want)
	}
}

// Great numbers: as deep as may be, and more.
func TestGreatNumbers(t *testing.T) {
	e := basis(t)
	for _, k := range []int{5, 8} {
		same(t, "powers", e, sample.Power(k), sample.Power(k))
		other(t, "powers, and one more", e, sample.Power(k), succ(sample.Power(k)))
		same(t, "a power", e, sample.Power(k), num(1<<k))
		other(t, "another power", e, sample.Power(k-1), sample.Power(k))
	}
	_, left, _ := normal.Form(e, sample.Power(11), 1<<20)
	tells(t, "a great power", e, sample.Power(11), num(1<<11), enough(1<<20-left), api.Alike)
	tells(t, "a great power, and one more", e, sample.Power(11), num(1<<11+1), enough(1<<20-left), api.Unlike)
	tells(t, "powers that are too great", e, sample.Power(12), sample.Power(12), math.MaxInt, api.Unsure)
	if v := ends(t, "a power that is too great, and a number", e, sample.Power(13), num(3), math.MaxInt); v == api.Alike {
		t.Error("alike")
	}
	same(t, "odd", e, sample.Odd(sample.Power(6)), num(0))
	if v, _, f := Alike(e, sample.Odd(succ(sample.Power(13))), num(1), 1<<30); f != api.OK || v != api.Alike { // all that is below waits for it
		t.Errorf("error %d, %d", f, v)
	}
}
