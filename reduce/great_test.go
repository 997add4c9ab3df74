package reduce

import (
	"slices"
	"testing"

	"batten/api"
	"batten/env"
	"batten/sample"
	"batten/term"
)

// P9.1: what is made that may not be, and what never ends.

// chain: a closed term of which k nodes stand in one another.
func chain(k int) api.Term {
	return sample.OfDepth(k, n, func(x api.Term) api.Term { return app(f, x) })
}

func many(k int) []api.Term { return slices.Repeat([]api.Term{n}, k) }

// of: a term of k nodes, without variables, which a weak head is not asked of.
func of(k int) api.Term { return sample.OfSizeClosed(k) }

// great: an environment of values and rules that are as great as may be, or half so.
func great(t *testing.T) *env.Env {
	t.Helper()
	half := app(f, of(api.TopTerm/2-2)) // TopTerm / 2 nodes, at whose head there is no step
	dropper := func(name string, fixed, fields int) api.Info {
		return api.Info{Kind: api.IsCtor, Name: name, Type: n, Of: "R", Fixed: fixed, Fields: fields}
	}
	return filled(t,
		axiom(0, "N", srt(zero)), axiom(0, "S", srt(zero)), axiom(0, "f", n),
		api.Info{Kind: api.IsType, Name: "R", Type: srt(zero), Record: true},
		dropper("drop", 1, 1), dropper("none", 0, 0),
		def(0, "half", n, half),
		def(0, "full", n, app(f, of(api.TopTerm-3))),
		def(0, "top", n, app(f, of(api.TopTerm-2))),
		def(0, "deep", n, app(f, chain(api.TopDepth-2))),
		def(0, "kept", n, apply(con("drop"), of(api.TopTerm/2+1), of(api.TopTerm/2-4))),
		def(0, "all", n, apply(con("drop"), of(api.TopTerm-4), n)),
		def(0, "deeply", n, apply(con("drop"), n, chain(api.TopDepth-1))),
		def(1, "sort", srt(sample.P(0, 4)), srt(sample.P(0, 3))),
		api.Info{Kind: api.IsRec, Name: "r", Type: n, Minors: 1, Rules: []api.Rule{rule("none", 0, half), rule("drop", 1, f)}},
		api.Info{Kind: api.IsRec, Name: "s", Params: 1, Type: n, Rules: []api.Rule{rule("none", 0, srt(sample.P(0, 3)))}},
	)
}

// grows: is it well up to some number, and too great behind it? (If it is the last one: steps, as many as are made.)
func grows(t *testing.T, what string, e *env.Env, most, steps int, made func(k int) (x, want api.Term)) {
	t.Helper()
	for _, k := range []int{most - 2, most - 1, most} {
		x, want := made(k)
		if !term.May(want) {
			t.Fatalf("%s: %d nodes may not be", what, k)
		}
		tells(t, what, e, x, steps+3, want, 3, api.OK)
		tells(t, what, e, x, steps, want, 0, api.OK)
		tells(t, what, e, want, 0, want, 0, api.OK)
	}
	for _, k := range []int{most + 1, most + 2} {
		x, _ := made(k)
		ends(t, what, e, x)
	}
}

func TestWhatALambdaMakesIsTooGreat(t *testing.T) {
	e := great(t)
	twice := apply(f, vr(0), vr(0)) // 5 nodes
	grows(t, "by nodes", e, (api.TopTerm-3)/2, 1, func(k int) (x, want api.Term) {
		g := sample.OfSize(k)
		return app(lam(n, twice), g), apply(f, g, g)
	})
	grows(t, "by what is behind", e, api.TopTerm-4-2*1001, 1, func(k int) (x, want api.Term) {
		g, h := of(1001), sample.OfSize(k)
		return apply(lam(n, apply(f, vr(0), vr(0))), g, h), apply(f, g, g, h)
	})
	grows(t, "by depth", e, api.TopDepth-8, 1, func(k int) (x, want api.Term) {
		g := func(in api.Term) api.Term {
			return app(f, sample.OfDepth(k, in, func(x api.Term) api.Term { return lam(x, n) }))
		}
		return app(lam(n, g(vr(0))), chain(8)), g(chain(8))
	})
	grows(t, "by a variable", e, sample.Far-2, 1, func(k int) (x, want api.Term) {
		return app(lam(n, lam(n, lam(n, vr(2)))), vr(k)), lam(n, lam(n, vr(k+2)))
	})
	// what is made on the way counts, even if it was not to stay
	ends(t, "in the middle", e, apply(lam(n, app(lam(n, n), apply(f, vr(0), vr(0)))), of(api.TopTerm/2+1)))
}

func TestWhatALetMakesIsTooGreat(t *testing.T) {
	e := great(t)
	grows(t, "by nodes", e, (api.TopTerm-3)/2, 1, func(k int) (x, want api.Term) {
		g := sample.OfSize(k)
		return let(n, g, apply(f, vr(0), vr(0))), apply(f, g, g)
	})
	grows(t, "by what is behind", e, api.TopTerm-3-4*1001-3, 1, func(k int) (x, want api.Term) {
		g, h := of(1001), sample.OfSize(k)
		return app(let(n, g, apply(f, vr(0), vr(0), app(vr(0), vr(0)))), h), apply(f, g, g, app(g, g), h)
	})
	grows(t, "by a variable", e, sample.Far-2, 1, func(k int) (x, want api.Term) {
		return let(n, vr(k), pi(n, lam(n, vr(2)))), pi(n, lam(n, vr(k+2)))
	})
}

func TestWhatADefinitionMakesIsTooGreat(t *testing.T) {
	e := great(t)
	grows(t, "by nodes", e, api.TopTerm/2-1, 1, func(k int) (x, want api.Term) {
		half, _ := e.Value(con("half"))
		return app(con("half"), sample.OfSize(k)), app(half, sample.OfSize(k))
	})
	grows(t, "by two", e, api.TopTerm/2-3, 1, func(k int) (x, want api.Term) {
		half, _ := e.Value(con("half"))
		return apply(con("half"), n, sample.OfSize(k)), apply(half, n, sample.OfSize(k))
	})
	grows(t, "by depth", e, 1, 1, func(k int) (x, want api.Term) {
		deep, _ := e.Value(con("deep"))
		return apply(con("deep"), many(max(k, 0))...), apply(deep, many(max(k, 0))...)
	})
	grows(t, "by levels", e, api.TopLevel-3, 1, func(k int) (x, want api.Term) {
		l, m := sample.Number(k), sample.Number(k+3)
		return apply(con("sort", l), n, n), apply(srt(m), n, n)
	})
	grows(t, "by a parameter's", e, api.TopLevel-3, 1, func(k int) (x, want api.Term) {
		return con("sort", sample.P(2, k)), srt(sample.P(2, k+3))
	})
	becomes(t, "as many as may be", e, con("top"), app(f, of(api.TopTerm-2)), 1)
	ends(t, "and more", e, app(con("top"), n))
}

func TestWhatARecursorMakesIsTooGreat(t *testing.T) {
	e := great(t)
	half, _ := e.Value(con("half"))
	grows(t, "by a minor", e, api.TopTerm/2-1, 1, func(k int) (x, want api.Term) {
		return apply(con("r"), sample.OfSize(k), con("none")), app(half, sample.OfSize(k))
	})
	grows(t, "by what is behind", e, api.TopTerm/2-3, 1, func(k int) (x, want api.Term) {
		return apply(con("r"), n, con("none"), sample.OfSize(k)), apply(half, n, sample.OfSize(k))
	})
	grows(t, "by levels", e, api.TopLevel-3, 1, func(k int) (x, want api.Term) {
		return app(con("s", sample.Number(k)), con("none")), srt(sample.Number(k + 3))
	})
	// the major one's weak head, and t with it, may be greater than what is made of them
	big := func(k int) api.Term { return app(lam(n, apply(con("drop"), apply(f, vr(0), vr(0)), n)), of(k)) }
	becomes(t, "a field of what is great", e, apply(con("r"), n, big(api.TopTerm/2-9)), apply(f, n, n), 2)
	becomes(t, "a field of what is great with it", e, apply(con("r"), of(20001), big(20001)), apply(f, of(20001), n), 2)
	becomes(t, "a field of what is greater with it", e, apply(con("r"), of(2001), con("kept")), apply(f, of(2001), of(api.TopTerm/2-4)), 2)
	becomes(t, "as much as may be", e, apply(con("r"), of(api.TopTerm/2+1), con("kept")), apply(f, of(api.TopTerm/2+1), of(api.TopTerm/2-4)), 2)
	ends(t, "one more", e, apply(con("r"), of(api.TopTerm/2+2), con("kept")))
	ends(t, "within", e, apply(con("r"), n, big(api.TopTerm/2+1)))
	// t with a weak head in it, of which there is no rule
	grows(t, "stuck, by nodes", e, api.TopTerm/2-3, 1, func(k int) (x, want api.Term) {
		g := sample.OfSize(k)
		return apply(con("r"), g, con("half")), apply(con("r"), g, half)
	})
	grows(t, "stuck, by what is behind", e, api.TopTerm/2-7, 1, func(k int) (x, want api.Term) {
		g := sample.OfSize(k)
		return apply(con("r"), n, con("half"), g, n), apply(con("r"), n, half, g, n)
	})
	becomes(t, "stuck, by depth", e, apply(con("r"), n, con("deep")), apply(con("r"), n, app(f, chain(api.TopDepth-2))), 1)
	ends(t, "stuck, by depth, and behind", e, apply(con("r"), n, con("deep"), n))
}

func TestWhatAProjectionMakesIsTooGreat(t *testing.T) {
	e := great(t)
	field := of(api.TopTerm/2 - 4)
	grows(t, "by what is behind", e, api.TopTerm/2+3, 2, func(k int) (x, want api.Term) {
		return app(prj("R", 0, con("kept")), of(k)), app(field, of(k))
	})
	becomes(t, "deep, without its constructor", e, prj("R", 0, con("deeply")), chain(api.TopDepth-1), 2)
	becomes(t, "deep, of one", e, app(prj("R", 0, con("deeply")), n), app(chain(api.TopDepth-1), n), 2)
	ends(t, "deep, of two", e, apply(prj("R", 0, con("deeply")), n, n))
	// the weak head of what it is of may be as great as may be; of that without a field the projection is greater
	becomes(t, "a field of what is great", e, prj("R", 0, con("all")), n, 2)
	becomes(t, "a field of what is great, and behind", e, app(prj("R", 0, let(n, n, con("all"))), of(1001)), app(n, of(1001)), 3)
	ends(t, "another one", e, prj("R", 1, con("all")))
	becomes(t, "stuck, by nodes", e, prj("R", 1, con("full")), prj("R", 1, app(f, of(api.TopTerm-3))), 1)
	ends(t, "stuck, by one more", e, prj("R", 1, con("top")))
	grows(t, "stuck, by what is behind", e, api.TopTerm/2-2, 1, func(k int) (x, want api.Term) {
		half, _ := e.Value(con("half"))
		g := sample.OfSize(k)
		return app(prj("R", 0, con("half")), g), app(prj("R", 0, half), g)
	})
	becomes(t, "stuck, by depth", e, prj("R", 0, con("deep")), prj("R", 0, app(f, chain(api.TopDepth-2))), 1)
	ends(t, "stuck, by depth, and behind", e, app(prj("R", 0, con("deep")), n))
}

// What goes on without an end: the fuel goes out, be it at once, in what grows, or within one more argument each time.
func TestWithoutAnEnd(t *testing.T) {
	e := basis(t)
	self := func(body api.Term) api.Term { return app(lam(n, body), lam(n, body)) }
	again := app(vr(0), vr(0))
	for what, x := range map[string]api.Term{
		"itself":                     self(again),
		"in a let":                   self(let(n, vr(0), app(vr(0), vr(0)))),
		"of a definition":            self(apply(con("id", zero), n, again)),
		"within a recursor":          self(count(again)),
		"within a projection":        self(prj("Pair", 0, again)),
		"within both":                self(prj("Pair", 1, apply(recN, n, n, n, again))),
		"in what a field is":         self(prj("Pair", 1, mk(n, again))),
		"in what a recursor becomes": self(apply(recN, n, again, n, num(0))),
	} {
		for _, fuel := range []int{0, 1, 2, 3, 10, 1000, 10000} {
			tells(t, what, e, x, fuel, api.Term{}, 0, api.ErrFuel)
		}
	}
	ends(t, "what grows", e, self(apply(vr(0), vr(0), apply(f, of(1001), vr(0)))))
	ends(t, "what grows by twice", e, app(self(lam(n, apply(vr(1), vr(1), apply(f, vr(0), vr(0))))), n))
	ends(t, "what deepens", e, app(self(lam(n, apply(vr(1), vr(1), sample.OfDepth(20, vr(0), func(x api.Term) api.Term { return app(f, x) })))), n))
}
