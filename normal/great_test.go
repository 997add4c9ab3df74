package normal

import (
	"math"
	"slices"
	"testing"

	"batten/api"
	"batten/env"
	"batten/sample"
	"batten/term"
)

// P10.1: what is made that may not be, and what never ends.

// of: a normal form of k nodes, without variables.
func of(k int) api.Term { return sample.OfSizeClosed(k) }

// great: an environment with definitions that are as great as may be, or half so.
func great(t *testing.T) *env.Env {
	t.Helper()
	return filled(t, sample.GreatInfos()...)
}

// pair: a constructor of a structure with one fixed argument, of the fields of y.
func pair(fixed, y api.Term) api.Term {
	return apply(con("R.mk"), fixed, prj("R", 0, y), prj("R", 1, y))
}

// grows: is it well up to some number, and too great behind it?
func grows(t *testing.T, what string, e *env.Env, most, steps int, made func(k int) (x, want api.Term)) {
	t.Helper()
	for _, k := range []int{most - 1, most} {
		x, want := made(k)
		if !term.May(x) || !term.May(want) {
			t.Fatalf("%s: %d: may not be", what, k)
		}
		tells(t, what, e, x, steps+3, want, 3, api.OK)
		tells(t, what, e, want, 0, want, 0, api.OK)
	}
	for _, k := range []int{most + 1, most + 2} {
		x, _ := made(k)
		if !term.May(x) {
			t.Fatalf("%s: %d: may not be", what, k)
		}
		for _, fuel := range []int{steps, math.MaxInt} {
			tells(t, what, e, x, fuel, api.Term{}, 0, api.ErrFuel)
		}
	}
}

const half, tall = api.TopTerm/2 - 1, api.TopDepth / 2 // of the definitions of these names

// value: of a definition.
func value(e *env.Env, s string) api.Term {
	x, _ := e.Value(con(s))
	return x
}

// As many nodes as may be, in each kind of what is put together, and one more.
func TestTooManyNodes(t *testing.T) {
	e := great(t)
	h := value(e, "half")
	for what, in := range map[string]func(x, y api.Term) api.Term{
		"of f":               func(x, y api.Term) api.Term { return apply(f, x, y) },
		"of a variable":      func(x, y api.Term) api.Term { return apply(vr(0), x, a, y) },
		"of a lambda":        func(x, y api.Term) api.Term { return lam(x, y) },
		"of a Pi":            func(x, y api.Term) api.Term { return pi(x, y) },
		"of a Pi, applied":   func(x, y api.Term) api.Term { return app(pi(n, x), y) },
		"of a Proj":          func(x, y api.Term) api.Term { return app(prj("R", 0, x), y) },
		"of a constructor":   func(x, y api.Term) api.Term { return apply(con("R.mk"), x, n, y) },
		"of one of too many": func(x, y api.Term) api.Term { return apply(con("Q.mk"), x, y) },
		"of one within":      func(x, y api.Term) api.Term { return lam(n, apply(vr(0), lifted(x), lifted(y))) },
		"of what comes last": func(x, y api.Term) api.Term { return apply(f, y, x) },
	} {
		beside := term.Size(in(n, n)) - 2
		grows(t, what, e, api.TopTerm-half-beside, 1, func(k int) (x, want api.Term) {
			return in(con("half"), of(k)), in(h, of(k))
		})
	}
	becomes(t, "as many as may be", e, con("full"), value(e, "full"), 1)
	for what, x := range map[string]api.Term{
		"one Proj more":   prj("S", 0, con("full")),
		"one lambda more": lam(n, con("full")),
		"one App more":    app(f, con("full")),
		"two":             app(con("half"), con("full")),
		"three":           apply(f, con("half"), con("half"), n),
	} {
		ends(t, what, e, x)
	}
}

// As many that stand in one another as may be, and one more.
func TestTooDeep(t *testing.T) {
	e := great(t)
	top := value(e, "tall")
	many := func(h api.Term, k int, behind ...api.Term) api.Term {
		return apply(h, append(slices.Repeat([]api.Term{n}, k), behind...)...)
	}
	grows(t, "in what f is of", e, tall, 1, func(k int) (x, want api.Term) {
		in := func(y api.Term) api.Term {
			return apply(f, append([]api.Term{y}, slices.Repeat([]api.Term{n}, k-1)...)...)
		}
		return in(con("tall")), in(top)
	})
	grows(t, "in a lambda", e, tall-1, 1, func(k int) (x, want api.Term) {
		in := func(y api.Term) api.Term { return lam(n, many(app(vr(0), y), k-1)) }
		return in(con("tall")), in(top)
	})
	grows(t, "in a domain", e, tall-1, 1, func(k int) (x, want api.Term) {
		in := func(y api.Term) api.Term { return lam(many(app(f, y), k-1), n) }
		return in(con("tall")), in(top)
	})
	grows(t, "in a Pi", e, tall-1, 1, func(k int) (x, want api.Term) {
		in := func(y api.Term) api.Term { return many(pi(n, y), k) }
		return in(con("tall")), in(top)
	})
	grows(t, "in a Pi's domain", e, tall-1, 1, func(k int) (x, want api.Term) {
		in := func(y api.Term) api.Term { return many(pi(y, n), k) }
		return in(con("tall")), in(top)
	})
	grows(t, "in a Proj", e, tall-1, 1, func(k int) (x, want api.Term) {
		in := func(y api.Term) api.Term { return many(prj("R", 1, y), k) }
		return in(con("tall")), in(top)
	})
	grows(t, "in Projs", e, 12, 1, func(k int) (x, want api.Term) {
		in := func(y api.Term) api.Term {
			return sample.OfDepth(k+1, many(app(f, y), tall-13), func(x api.Term) api.Term { return prj("R", 1, x) })
		}
		return in(con("tall")), in(top)
	})
	grows(t, "in a constructor", e, tall-2, 1, func(k int) (x, want api.Term) {
		in := func(y api.Term) api.Term { return apply(con("R.mk"), n, n, many(app(f, y), k)) }
		return in(con("tall")), in(top)
	})
	becomes(t, "as deep as may be", e, con("top"), value(e, "top"), 1)
	for what, x := range map[string]api.Term{
		"in one more":        prj("R", 0, con("top")),
		"in a lambda":        lam(n, con("top")),
		"in its domain":      lam(con("top"), n),
		"in a Pi":            pi(n, con("top")),
		"in what f is of":    app(f, con("top")),
		"applied":            app(con("top"), n),
		"in what is dropped": lam(con("top"), app(f, vr(0))),
		"in a fixed one":     pair(con("top"), con("y")),
	} {
		ends(t, what, e, x)
	}
}

// What is made counts as it is ahead of what is contracted.
func TestTooGreatAheadOfAContraction(t *testing.T) {
	e := great(t)
	h := value(e, "half")
	grows(t, "a lambda, by its domain's nodes", e, api.TopTerm-half-3, 1, func(k int) (x, want api.Term) {
		return lam(con("half"), app(of(k), vr(0))), of(k)
	})
	grows(t, "a lambda, by its body's nodes", e, api.TopTerm-half-3, 1, func(k int) (x, want api.Term) {
		return lam(of(k), app(con("half"), vr(0))), h
	})
	grows(t, "a structure, by its fields' nodes", e, (api.TopTerm-half-6)/2, 1, func(k int) (x, want api.Term) {
		return pair(con("half"), of(k)), of(k)
	})
	e.Add(def(0, "some", n, of(16001)))
	grows(t, "a structure, by its fixed one's nodes", e, api.TopTerm-2*16001-6, 2, func(k int) (x, want api.Term) {
		return pair(of(k), con("some")), of(16001)
	})
	e.Add(def(0, "wide", n, of(api.TopTerm-3)), def(0, "wider", n, of(api.TopTerm-2)), def(0, "low", n, sample.OfDepthClosed(api.TopDepth-2)), def(0, "lower", n, sample.OfDepthClosed(api.TopDepth-1)))
	tells(t, "as many nodes as may be", e, lam(n, app(con("wide"), vr(0))), 1, api.Term{}, 0, api.ErrFuel)
	becomes(t, "a body as deep as may be", e, lam(n, app(con("low"), vr(0))), value(e, "low"), 1)
	ends(t, "a body that is deeper", e, lam(n, app(con("lower"), vr(0))))
	ends(t, "a body of more nodes", e, lam(n, app(con("wider"), vr(0))))
	becomes(t, "fields as deep as may be", e, app(con("Q.mk"), prj("Q", 0, con("low"))), value(e, "low"), 1)
	ends(t, "fields that are deeper", e, app(con("Q.mk"), prj("Q", 0, con("lower"))))
}

// What is lost by contraction takes no room of that in which what is left comes to stand.
func TestWhatIsLostTakesNoRoom(t *testing.T) {
	e := great(t)
	long, bulky := sample.OfDepthClosed(api.TopDepth/2-3), of(20001)
	for what, c := range map[string]struct {
		x, want api.Term
		steps   int
	}{
		"a lambda":                          {lam(n, app(f, vr(0))), f, 0},
		"a lambda with a deep domain":       {lam(con("tall"), app(f, vr(0))), f, 1},
		"a lambda with a great domain":      {lam(con("half"), app(f, vr(0))), f, 1},
		"two with both":                     {lam(con("half"), lam(con("tall"), apply(f, vr(1), vr(0)))), f, 2},
		"one within another's domain":       {lam(lam(con("tall"), app(con("half"), vr(0))), app(f, vr(0))), f, 2},
		"one in what is lost":               {pair(lam(con("tall"), app(con("half"), vr(0))), f), f, 2},
		"a structure with a deep one":       {pair(con("tall"), f), f, 1},
		"a structure with a great one":      {pair(con("half"), f), f, 1},
		"a structure in one":                {pair(con("half"), pair(con("half"), f)), f, 1 + 2*1},
		"a structure in another one":        {app(con("Q.mk"), prj("Q", 0, pair(con("tall"), f))), f, 1},
		"a lambda of a structure":           {lam(con("half"), app(pair(con("tall"), f), vr(0))), f, 2},
		"a structure of a lambda":           {pair(con("half"), lam(con("half"), app(f, vr(0)))), f, 3},
		"a lambda in what it is applied to": {lam(con("tall"), app(f, lam(con("tall"), app(vr(1), lam(n, app(vr(1), vr(0))))))), f, 2},
	} {
		for where, in := range map[string]func(x api.Term) api.Term{
			"deep within": func(x api.Term) api.Term { return apply(app(f, x), slices.Repeat([]api.Term{n}, api.TopDepth-2)...) },
			"among many":  func(x api.Term) api.Term { return apply(f, of(api.TopTerm-6), x, n) },
			"beside many": func(x api.Term) api.Term { return pi(of(api.TopTerm-2), x) },
		} {
			isLost(t, what+", "+where, e, c.x, c.want, in, c.steps+1)
		}
		twice := func(x api.Term) api.Term { return apply(f, x, bulky, long, lam(n, pi(n, prj("R", 0, app(f, x))))) }
		isLost(t, what+", twice", e, c.x, c.want, twice, 2*(c.steps+1))
	}
	within := func(x api.Term) api.Term {
		return sample.OfDepth(api.TopDepth, x, func(x api.Term) api.Term { return pi(n, x) })
	}
	isLost(t, "a lambda, deeper within", e, lam(n, app(f, vr(0))), f, within, 1)
	isLost(t, "a structure, deeper within", e, pair(con("half"), f), f, within, 2)
}

// isLost: comes what is wanted to stand in another term in the place of x, which comes of a definition, as it may be too great there itself?
func isLost(t *testing.T, what string, e *env.Env, x, want api.Term, in func(x api.Term) api.Term, steps int) {
	t.Helper()
	e, _ = e.With(def(0, "it", n, x))
	tells(t, what, e, in(con("it")), steps, in(want), 0, api.OK)
}

// Without an end, in what is put into its form: the fuel goes out, be it at once or later.
func TestWithoutAnEnd(t *testing.T) {
	e := basis(t)
	for what, x := range sample.EndlessForms() {
		for _, fuel := range []int{0, 1, 2, 3, 10, 100, 3000} {
			tells(t, what, e, x, fuel, api.Term{}, 0, api.ErrFuel)
			says(t, what, e, x, a, fuel, api.Unsure)
		}
	}
}

// What grows without an end is too great, however much fuel there is.
func TestWhatGrowsWithoutAnEnd(t *testing.T) {
	e := basis(t, axiom(0, "S", n))
	for what, x := range sample.Growing() {
		tells(t, what, e, x, math.MaxInt, api.Term{}, 0, api.ErrFuel)
	}
}
