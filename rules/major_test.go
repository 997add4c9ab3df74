package rules

import (
	"testing"

	"batten/api"
	"batten/env"
	"batten/sample"
)

// P8.2

// args: n terms that may be, each another one, all closed.
func args(n int) []api.Term {
	l := make([]api.Term, n)
	for i := range l {
		l[i] = srt(sample.Number(i))
	}
	return l
}

// recursorOf: a recursor r over two levels, of those numbers.
func recursorOf(fixed, motives, minors, index int, l ...api.Rule) api.Info {
	return api.Info{Kind: api.IsRec, Name: "r", Params: 2, Type: srt(zero), Fixed: fixed, Motives: motives, Minors: minors, Index: index, Rules: l}
}

func notMajor(t *testing.T, e *env.Env, x api.Term) {
	t.Helper()
	if at, is := Major(e, x); at != 0 || is {
		t.Errorf("Major of the kind %d: %d, %v", x.K, at, is)
	}
}

func TestMajorOfTheSample(t *testing.T) {
	e := basis(t)
	for _, c := range []struct {
		head api.Term
		at   int
	}{
		{con("N.rec", zero), 3},
		{con("N.rec", sample.P(2, 5)), 3},
		{con("List.rec", zero, two), 4},
	} {
		for n := range 9 {
			x := apply(c.head, args(n)...)
			at, is := Major(e, x)
			if want := n > c.at; is != want || want && at != c.at || !want && at != 0 {
				t.Errorf("%s of %d: %d, %v", c.head.S, n, at, is)
			}
		}
	}
	for _, x := range []api.Term{ // a structure's recursor is a definition
		apply(con("Pair.rec", zero, zero, zero), args(5)...),
		apply(con("Pair.rec", zero, zero, zero), args(6)...),
	} {
		notMajor(t, e, x)
	}
}

// Each number counts: one argument too few, just enough, and more.
func TestMajorOfNumbers(t *testing.T) {
	for i, c := range [][4]int{{}, {1, 0, 0, 0}, {0, 2, 0, 0}, {0, 0, 3, 0}, {0, 0, 0, 4}, {5, 3, 2, 1}, {1, 1, 1, 12}, {1000, 1000, 1000, 1000}} {
		e := filled(t, recursorOf(c[0], c[1], c[2], c[3]))
		at := c[0] + c[1] + c[2] + c[3]
		for _, n := range []int{0, at - 1, at, at + 1, at + 2, at + 90} {
			if n < 0 || n >= api.TopDepth {
				continue
			}
			got, is := Major(e, apply(con("r", zero, two), args(n)...))
			if want := n > at; is != want || want && got != at || !want && got != 0 {
				t.Errorf("the one %d, of %d: %d, %v", i, n, got, is)
			}
		}
	}
}

func TestMajorOfLevels(t *testing.T) {
	l := []api.Level{zero, two, zero, sample.P(1, 1)}
	for params := range api.MaxParams + 1 {
		x := recursorOf(1, 1, 1, 1)
		x.Params = params
		e := filled(t, x)
		for n := range len(l) + 1 {
			at, is := Major(e, apply(con("r", l[:n]...), args(6)...))
			if is != (n == params) || is && at != 4 || !is && at != 0 {
				t.Errorf("%d levels for %d: %d, %v", n, params, at, is)
			}
		}
	}
}

func TestMajorOfWhatIsNoRecursor(t *testing.T) {
	for kind := api.IsAxiom; kind <= api.IsRec; kind++ { // numbers of another kind say nothing
		x := recursorOf(1, 1, 1, 1)
		x.Kind, x.Value = kind, srt(zero)
		at, is := Major(filled(t, x), apply(con("r", zero, two), args(6)...))
		if is != (kind == api.IsRec) || is && at != 4 || !is && at != 0 {
			t.Errorf("of the kind %d: %d, %v", kind, at, is)
		}
	}
	e := filled(t, recursorOf(0, 0, 0, 0))
	r := con("r", zero, two)
	for _, x := range []api.Term{
		r, srt(zero), vr(0), app(vr(0), r), app(srt(zero), r), app(lam(r, r), r), app(pi(r, r), r), app(let(r, r, r), r),
		prj("r", 0, r), app(prj("r", 0, r), r), app(con("none", zero, two), r), app(con("R", zero, two), r), app(con("r.", zero, two), r),
		lam(r, app(r, r)), prj("r", 0, app(r, r)), let(r, r, app(r, r)),
	} {
		notMajor(t, e, x)
	}
	if at, is := Major(e, app(r, r)); at != 0 || !is { // the place 0 is one
		t.Errorf("%d, %v", at, is)
	}
}

func TestMajorOfWhatMayNotBe(t *testing.T) {
	e := filled(t, recursorOf(0, 0, 0, 1))
	r := con("r", zero, two)
	for _, b := range sample.Bads() {
		for _, x := range []api.Term{b, apply(r, b, r), apply(r, r, b), apply(r, r, r, b), apply(b, r, r)} {
			notMajor(t, e, x)
		}
	}
	for _, x := range []api.Term{{K: api.Const, S: "r", N: 1, Ls: r.Ls}, con("r", zero, sample.BadLevels()[0]), {K: api.App, S: "r", T: []api.Term{r, r}}} {
		notMajor(t, e, apply(x, r, r))
	}
	notMajor(t, nil, apply(r, r, r))
	notMajor(t, nil, api.Term{})
}
