package normal

import (
	"math"
	"testing"

	"batten/api"
	"batten/env"
	"batten/sample"
	"batten/term"
)

// P10.2.

// Each two of kin, with just enough, with one less, and with too little for the first.
func TestAlikeByForms(t *testing.T) {
	e := basis(t)
	for i, l := range sample.Kin() {
		for _, x := range l {
			for j, m := range sample.Kin() {
				for _, y := range m {
					want := api.Unlike
					if i == j {
						want = api.Alike
					}
					steps := x.Steps + y.Steps
					for _, fuel := range []int{steps, steps + 1, 1000, math.MaxInt} {
						says(t, "both", e, x.X, y.X, fuel, want)
					}
					if steps > 0 {
						says(t, "one less", e, x.X, y.X, steps-1, api.Unsure)
						says(t, "none", e, x.X, y.X, 0, api.Unsure)
					}
				}
			}
		}
	}
}

// With the fuel for the one the other one is Unsure, be it the first or the second one, and be they the same.
func TestUnsure(t *testing.T) {
	e := basis(t)
	dear := add(num(1), num(1)) // 14 steps
	for fuel := range 40 {
		v, f := Alike(e, dear, dear, fuel)
		if w := []api.Verdict{api.Unsure, api.Alike}[min(fuel/28, 1)]; v != w || f != api.OK {
			t.Errorf("with %d: %d, error %d", fuel, v, f)
		}
		want := []api.Verdict{api.Unsure, api.Unlike}[min(fuel/14, 1)]
		says(t, "with a", e, dear, a, fuel, want)
		want = []api.Verdict{api.Unsure, api.Unlike}[min(fuel/15, 1)]
		says(t, "with one", e, dear, con("one"), fuel, want)
	}
	endless := app(lam(n, app(vr(0), vr(0))), lam(n, app(vr(0), vr(0))))
	for _, x := range []api.Term{endless, app(f, endless), lam(endless, a), pi(n, endless)} {
		for _, y := range []api.Term{x, a, con("one"), dear} {
			says(t, "without an end", e, x, y, 500, api.Unsure)
		}
	}
	great := apply(f, con("one"), let(n, sample.OfSizeClosed(api.TopTerm/2), apply(f, vr(0), vr(0))))
	says(t, "too great", e, great, great, math.MaxInt, api.Unsure)
	says(t, "too great, and another", e, great, a, math.MaxInt, api.Unsure)
}

// ErrArg goes ahead of what the fuel says, be it of the first or of the second one; ErrNil of all.
func TestAlikeOfWhatMayNotBe(t *testing.T) {
	e := basis(t)
	refused := func(e *env.Env, x, y api.Term, fuel int, want api.Errno) {
		t.Helper()
		if v, f := Alike(e, x, y, fuel); v != 0 || f != want {
			t.Fatalf("with %d: %d, error %d, want %d", fuel, v, f, want)
		}
	}
	for _, b := range append(sample.Bads(), app(con("one"), api.Term{}), con("id", sample.BadLevels()[0])) {
		for _, y := range []api.Term{a, con("one"), b, app(lam(n, app(vr(0), vr(0))), lam(n, app(vr(0), vr(0))))} {
			for _, fuel := range []int{0, 100, -1} {
				refused(e, b, y, fuel, api.ErrArg)
				refused(e, y, b, fuel, api.ErrArg)
				refused(nil, b, y, fuel, api.ErrNil)
				refused(nil, y, b, fuel, api.ErrNil)
			}
		}
	}
	for _, fuel := range []int{-1, -2, math.MinInt} {
		refused(e, a, a, fuel, api.ErrArg)
		refused(e, con("one"), a, fuel, api.ErrArg)
		refused(nil, a, a, fuel, api.ErrNil)
	}
	refused(nil, a, a, 0, api.ErrNil)
	refused(nil, con("one"), a, 0, api.ErrNil)
}

// Alike, if a plain model says so: of small terms, each with some others.
func TestAlikeOfSmallTerms(t *testing.T) {
	e := filled(t, sample.SmallInfos()...)
	l := sample.Some(29)
	for i, x := range l {
		for _, y := range l[max(0, i-3) : i+1] {
			w := words{e, 40}
			n, isX := w.form(x)
			m, isY := api.Term{}, false
			if isX {
				m, isY = w.form(y)
			}
			want := api.Unlike
			switch {
			case !isX || !isY:
				want = api.Unsure
			case term.Same(n, m):
				want = api.Alike
			}
			if v, f := Alike(e, x, y, 40); v != want || f != api.OK {
				t.Fatalf("%d, error %d, want %d: %s, %s", v, f, want, text(x), text(y))
			}
		}
	}
}
