package normal

import (
	"math"
	"testing"

	"batten/api"
	"batten/env"
	"batten/sample"
	"batten/term"
)

// P10.2.

// kin: terms, those of one list with one form, those of different ones with different forms; and how many steps each takes.
func kin() [][]struct {
	x     api.Term
	steps int
} {
	type of = []struct {
		x     api.Term
		steps int
	}
	return [][]struct {
		x     api.Term
		steps int
	}{
		of{{a, 0}, {id(a), 3}, {let(n, a, vr(0)), 1}, {first(mk(a, f)), 1}, {add(a, num(0)), 7}, {both(a), 0}},
		of{{num(2), 0}, {add(num(1), num(1)), 14}, {succ(con("one")), 1}, {app(con("double"), con("one")), 18}},
		of{{num(1), 0}, {con("one"), 1}, {add(num(1), num(0)), 7}},
		of{{num(3), 0}},
		of{{f, 0}, {lam(n, app(f, vr(0))), 0}, {lam(unary, app(f, id(vr(0)))), 3}},
		of{{p, 0}, {both(p), 0}, {swap(swap(p)), 14}, {lam(n, app(p, vr(0))), 0}},
		of{{swap(p), 4}, {mk(second(p), first(p)), 0}},
		of{{lam(n, vr(0)), 0}, {app(con("id", zero), n), 2}},
		of{{lam(unary, vr(0)), 0}, {app(con("id", zero), unary), 2}, {lam(unary, lam(n, app(vr(1), vr(0)))), 0}},
		of{{vr(0), 0}, {both(vr(0)), 0}},
		of{{vr(1), 0}, {lam(n, app(vr(2), vr(0))), 0}},
		of{{srt(zero), 0}, {apply(con("id", two), srt(two), srt(zero)), 3}},
		of{{srt(two), 0}},
		of{{pi(n, n), 0}, {pi(id(n), apply(con("id", zero), srt(zero), n)), 6}},
		of{{pi(n, vr(0)), 0}},
		of{{con("id", zero), 1}, {lam(srt(zero), lam(vr(0), vr(0))), 0}},
		of{{con("id", two), 1}, {lam(srt(two), lam(vr(0), vr(0))), 0}},
		of{{con("Pair", zero, zero), 0}},
		of{{con("Pair", zero, two), 0}},
		of{{first(p), 0}, {second(swap(p)), 5}},
		of{{prj("Other", 0, p), 0}},
		of{{second(p), 0}, {first(swap(p)), 5}},
		of{{con("none"), 0}},
		of{{app(con("none"), con("one")), 1}, {app(con("none"), num(1)), 0}},
	}
}

// Each two of them, with just enough, with one less, and with too little for the first.
func TestAlikeByForms(t *testing.T) {
	e := basis(t)
	for i, l := range kin() {
		for _, x := range l {
			for j, m := range kin() {
				for _, y := range m {
					want := api.Unlike
					if i == j {
						want = api.Alike
					}
					steps := x.steps + y.steps
					for _, fuel := range []int{steps, steps + 1, 1000, math.MaxInt} {
						says(t, "both", e, x.x, y.x, fuel, want)
					}
					if steps > 0 {
						says(t, "one less", e, x.x, y.x, steps-1, api.Unsure)
						says(t, "none", e, x.x, y.x, 0, api.Unsure)
					}
				}
			}
		}
	}
}

// With the fuel for the one the other one is Unsure, be it the first or the second one, and be they the same.
func TestUnsure(t *testing.T) {
	e := basis(t)
	dear := add(num(1), num(1)) // 14 steps
	for fuel := range 40 {
		v, f := Alike(e, dear, dear, fuel)
		if w := []api.Verdict{api.Unsure, api.Alike}[min(fuel/28, 1)]; v != w || f != api.OK {
			t.Errorf("with %d: %d, error %d", fuel, v, f)
		}
		want := []api.Verdict{api.Unsure, api.Unlike}[min(fuel/14, 1)]
		says(t, "with a", e, dear, a, fuel, want)
		want = []api.Verdict{api.Unsure, api.Unlike}[min(fuel/15, 1)]
		says(t, "with one", e, dear, con("one"), fuel, want)
	}
	endless := app(lam(n, app(vr(0), vr(0))), lam(n, app(vr(0), vr(0))))
	for _, x := range []api.Term{endless, app(f, endless), lam(endless, a), pi(n, endless)} {
		for _, y := range []api.Term{x, a, con("one"), dear} {
			says(t, "without an end", e, x, y, 500, api.Unsure)
		}
	}
	great := apply(f, con("one"), let(n, sample.OfSizeClosed(api.TopTerm/2), apply(f, vr(0), vr(0))))
	says(t, "too great", e, great, great, math.MaxInt, api.Unsure)
	says(t, "too great, and another", e, great, a, math.MaxInt, api.Unsure)
}

// ErrArg goes ahead of what the fuel says, be it of the first or of the second one; ErrNil of all.
func TestAlikeOfWhatMayNotBe(t *testing.T) {
	e := basis(t)
	refused := func(e *env.Env, x, y api.Term, fuel int, want api.Errno) {
		t.Helper()
		if v, f := Alike(e, x, y, fuel); v != 0 || f != want {
			t.Fatalf("with %d: %d, error %d, want %d", fuel, v, f, want)
		}
	}
	for _, b := range append(sample.Bads(), app(con("one"), api.Term{}), con("id", sample.BadLevels()[0])) {
		for _, y := range []api.Term{a, con("one"), b, app(lam(n, app(vr(0), vr(0))), lam(n, app(vr(0), vr(0))))} {
			for _, fuel := range []int{0, 100, -1} {
				refused(e, b, y, fuel, api.ErrArg)
				refused(e, y, b, fuel, api.ErrArg)
				refused(nil, b, y, fuel, api.ErrNil)
				refused(nil, y, b, fuel, api.ErrNil)
			}
		}
	}
	for _, fuel := range []int{-1, -2, math.MinInt} {
		refused(e, a, a, fuel, api.ErrArg)
		refused(e, con("one"), a, fuel, api.ErrArg)
		refused(nil, a, a, fuel, api.ErrNil)
	}
	refused(nil, a, a, 0, api.ErrNil)
	refused(nil, con("one"), a, 0, api.ErrNil)
}

// Alike, if a plain model says so: of small terms, each with some others.
func TestAlikeOfSmallTerms(t *testing.T) {
	e := filled(t, sample.SmallInfos()...)
	l := sample.Some(29)
	for i, x := range l {
		for _, y := range l[max(0, i-3) : i+1] {
			w := words{e, 40}
			n, isX := w.form(x)
			m, isY := api.Term{}, false
			if isX {
				m, isY = w.form(y)
			}
			want := api.Unlike
			switch {
			case !isX || !isY:
				want = api.Unsure
			case term.Same(n, m):
				want = api.Alike
			}
			if v, f := Alike(e, x, y, 40); v != want || f != api.OK {
				t.Fatalf("%d, error %d, want %d: %s, %s", v, f, want, text(x), text(y))
			}
		}
	}
}
