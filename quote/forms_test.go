package quote

import (
	"testing"

	"batten/api"
	"batten/sample"
	"batten/term"
)

// P12.1: which form a term has.

// Each kind of term that a normal form may be: it stays, wherever it stands, and is come to by each way.
func TestTheKindsOfForms(t *testing.T) {
	e := basis(t, sample.Strangers()...)
	for what, x := range sample.Forms() {
		stays(t, what, e, x)
		if !term.May(lifted(x)) {
			continue
		}
		for where, in := range sample.Places(lifted) {
			stays(t, what+": "+where, e, in(x))
		}
		for by, c := range sample.Ways(x, lifted) {
			becomes(t, what+", by "+by, e, c.X, x, c.Steps)
		}
	}
}

// All steps, wherever they are to be made: at the head, below lambdas and Pis, in domains, in arguments, in what a Proj is of.
func TestStepsInAllPlaces(t *testing.T) {
	e := basis(t)
	for what, c := range sample.Unformed() {
		becomes(t, what, e, c.X, c.Want, c.Steps)
		for where, in := range sample.Places(lifted) {
			becomes(t, what+": "+where, e, in(c.X), in(c.Want), c.Steps)
		}
		for by, d := range sample.Ways(c.X, lifted) {
			becomes(t, what+", by "+by, e, d.X, c.Want, c.Steps+d.Steps)
		}
	}
	for _, x := range []api.Term{a, num(2), vr(3), mk(vr(0), a), lam(n, app(vr(0), vr(2))), pi(n, vr(1))} {
		for by, c := range sample.Ways(x, lifted) {
			for where, in := range sample.Places(lifted) {
				becomes(t, where+", by "+by, e, in(c.X), in(x), c.Steps)
			}
		}
	}
}

// What a recursor looks at, or a projection is of, where there is no rule: its weak head's parts are put into their forms, too.
func TestWhatIsStuck(t *testing.T) {
	e := basis(t)
	rec := func(m api.Term) api.Term { return apply(recN, n, vr(0), f, m) }
	for by, c := range sample.Ways(app(f, id(a)), lifted) {
		becomes(t, "a recursor, by "+by, e, rec(c.X), rec(app(f, a)), c.Steps+3)
		becomes(t, "a recursor, and behind, by "+by, e, apply(rec(c.X), con("one"), vr(1)), apply(rec(app(f, a)), num(1), vr(1)), c.Steps+3+1)
		becomes(t, "a projection, by "+by, e, second(c.X), second(app(f, a)), c.Steps+3)
		becomes(t, "a projection, and behind, by "+by, e, app(first(c.X), con("one")), app(first(app(f, a)), num(1)), c.Steps+3+1)
		becomes(t, "both, by "+by, e, rec(first(rec(c.X))), rec(first(rec(app(f, a)))), c.Steps+3)
		becomes(t, "below a lambda, by "+by, e, lam(couple, rec(lifted(c.X))), lam(couple, rec(app(f, a))), c.Steps+3)
	}
	becomes(t, "what a rule leaves", e, apply(recN, n, num(0), vr(4), succ(vr(7))), apply(vr(4), vr(7), apply(recN, n, num(0), vr(4), vr(7))), 5)
	becomes(t, "of too few", e, apply(recN, id(n), id(a)), apply(recN, n, a), 6)
	becomes(t, "of no levels", e, apply(con("N.rec"), n, n, n, con("one")), apply(con("N.rec"), n, n, n, num(1)), 1)
}

// What is contracted, and what is not, is so as in normal.
func TestContracted(t *testing.T) {
	e := basis(t, sample.Strangers()...)
	for what, c := range sample.Contracted() {
		becomes(t, what, e, c.X, c.Want, c.Steps)
		becomes(t, what+", within a lambda", e, lam(n, lifted(c.X)), lam(n, lifted(c.Want)), c.Steps)
		becomes(t, what+", in a domain", e, lam(app(f, c.X), vr(0)), lam(app(f, c.Want), vr(0)), c.Steps)
		becomes(t, what+", within functions", e, pi(app(f, c.X), lifted(c.X)), pi(app(f, c.Want), lifted(c.Want)), 2*c.Steps)
		becomes(t, what+", in arguments", e, apply(vr(2), c.X, a, c.X), apply(vr(2), c.Want, a, c.Want), 2*c.Steps)
		for by, d := range sample.Ways(c.X, lifted) {
			becomes(t, what+", by "+by, e, d.X, c.Want, c.Steps+d.Steps)
		}
	}
	becomes(t, "the other one's own", e, apply(con("Other.mk"), prj("Other", 0, p), prj("Other", 1, p)), p, 0)
}

// Free variables stand for themselves, and bound ones for what binds them, whatever is put where, and below whichever binders.
func TestVariables(t *testing.T) {
	e := basis(t)
	inner := lam(n, apply(vr(0), vr(1), vr(2), lam(n, apply(vr(0), vr(1), vr(2), vr(3))))) // of the free variables 0 and 1
	for _, c := range []struct {
		x, want api.Term
		steps   int
	}{
		{app(inner, vr(5)), apply(vr(5), vr(0), vr(1), lam(n, apply(vr(0), vr(6), vr(1), vr(2)))), 1},
		{lam(n, app(lifted(inner), vr(0))), inner, 1},
		{app(lam(n, lam(n, apply(vr(1), vr(0), vr(2)))), vr(0)), lam(n, apply(vr(1), vr(0), vr(1))), 1},
		{app(lam(n, lam(n, lam(n, apply(vr(2), vr(1), vr(0), vr(3))))), vr(3)), lam(n, lam(n, apply(vr(5), vr(1), vr(0), vr(2)))), 1},
		{lam(n, app(lam(n, lam(n, app(vr(1), vr(2)))), vr(0))), lam(n, lam(n, app(vr(1), vr(1)))), 1},
		{let(n, vr(4), lam(vr(0), apply(vr(1), vr(0), vr(2)))), lam(vr(4), apply(vr(5), vr(0), vr(1))), 1},
		{let(n, vr(4), pi(vr(0), apply(vr(1), vr(0), vr(2)))), pi(vr(4), apply(vr(5), vr(0), vr(1))), 1},
		{lam(n, pi(vr(0), let(n, vr(1), lam(vr(0), apply(vr(1), vr(0), vr(2), vr(3), vr(4)))))), lam(n, pi(vr(0), lam(vr(1), apply(vr(2), vr(0), vr(1), vr(2), vr(3))))), 1},
		{app(lam(unary, lam(n, app(vr(1), app(vr(1), vr(0))))), lam(n, apply(vr(0), vr(1)))), lam(n, apply(vr(0), vr(1), vr(1))), 3},
		{app(lam(unary, lam(n, app(vr(1), vr(0)))), lam(n, lam(n, apply(vr(1), vr(0), vr(2))))), lam(n, lam(n, apply(vr(1), vr(0), vr(2)))), 2},
		{second(mk(a, lam(n, apply(vr(3), vr(0), vr(1))))), lam(n, apply(vr(3), vr(0), vr(1))), 1},
		{lam(n, second(mk(vr(0), lam(n, apply(vr(1), vr(0), vr(2)))))), lam(n, lam(n, apply(vr(1), vr(0), vr(2)))), 1},
		{app(lam(n, count(vr(0))), vr(0)), apply(recN, lam(n, n), num(0), lam(n, con("N.succ")), vr(0)), 1},
		{lam(n, apply(recN, n, vr(1), lam(n, lam(n, apply(vr(2), vr(1), vr(0), vr(3)))), num(1))), lam(n, apply(vr(0), num(0), vr(1), vr(1))), 5 + 2 + 4},
		{vr(sample.Far), vr(sample.Far), 0},
		{app(lam(n, vr(1)), a), vr(0), 1},
		{app(lam(n, vr(sample.Far)), a), vr(sample.Far - 1), 1},
		{lam(n, app(vr(sample.Far), vr(0))), vr(sample.Far - 1), 0},
		{lam(n, lam(n, apply(f, lam(n, vr(sample.Far)), vr(1), vr(0)))), app(f, lam(n, vr(sample.Far-2))), 0},
	} {
		becomes(t, text(c.x), e, c.x, c.want, c.steps)
		if term.May(lifted(c.x)) {
			becomes(t, text(c.x), e, pi(n, app(vr(9), lifted(c.x))), pi(n, app(vr(9), lifted(c.want))), c.steps)
		}
	}
	for _, fuel := range []int{1, 1000} { // below a binder there would be none with such a number
		fails(t, "beyond the farthest", e, app(lam(n, lam(n, vr(1))), vr(sample.Far)), fuel, api.ErrFuel)
	}
}

// What is dropped takes no fuel; what is there twice takes it twice.
func TestWhatIsDropped(t *testing.T) {
	e := basis(t, sample.Loose())
	for what, dear := range sample.EndlessHeads() {
		becomes(t, what+", by a lambda", e, app(lam(n, a), dear), a, 1)
		becomes(t, what+", by a let", e, let(dear, dear, a), a, 1)
		becomes(t, what+", by a field", e, first(mk(a, dear)), a, 1)
		becomes(t, what+", by a recursor", e, apply(recN, dear, a, dear, num(0)), a, 4)
		becomes(t, what+", by a recursor, of what it is not asked for", e, apply(recN, dear, dear, lam(n, lam(n, a)), succ(dear)), a, 7)
	}
	becomes(t, "twice", e, app(lam(n, apply(f, vr(0), vr(0))), con("one")), apply(f, num(1), num(1)), 3)
	becomes(t, "twice, below a binder", e, app(lam(n, lam(vr(0), apply(f, vr(1), vr(0)))), id(a)), app(f, a), 1+3+3)
}

// Each step takes fuel, wherever it stands: one by one they go out.
func TestEachStepTakesFuel(t *testing.T) {
	e := basis(t)
	x, want := con("one"), num(1)
	for steps := 1; steps < 12; steps++ {
		becomes(t, "so many", e, x, want, steps)
		x, want = apply(f, con("one"), x), apply(f, num(1), want)
	}
	x, want = a, a
	for steps := range 12 {
		becomes(t, "so deep", e, x, want, steps)
		x, want = let(n, n, pi(n, lifted(lifted(x)))), pi(n, lifted(want))
	}
}
