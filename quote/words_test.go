package quote

import (
	"math"
	"testing"

	"batten/api"
	"batten/env"
	"batten/normal"
	"batten/sample"
	"batten/subst"
	"batten/term"
)

var (
	zero, two = sample.Zero, sample.Two

	srt, vr, con, prj = sample.Sort, sample.Var, sample.Const, sample.Proj
	app, lam, pi, let = sample.App, sample.Lam, sample.Pi, sample.Let
	apply, num        = sample.Apply, sample.Num
	mk, succ, count   = sample.Mk, sample.Succ, sample.Count
	first, second     = sample.First, sample.Second
	both, swap        = sample.Both, sample.Swap
	id, add           = sample.Id, sample.Add
	row, sum          = sample.List, sample.Sum
	text, zeroTerm    = sample.Text, sample.IsZero

	axiom, def = sample.IsAxiom, sample.IsDef
)

// Of the sample: axioms, a recursor at the level 0, and types.
var (
	n, a, f, p = con("N"), con("a"), con("f"), con("p")
	recN       = con("N.rec", zero)
	unary      = pi(n, n)
	couple     = sample.PairOf(n, n)
)

// lifted: a term, one binder further in.
func lifted(t api.Term) api.Term {
	t, _ = subst.Lift(t, 0, 1)
	return t
}

// filled: an environment with these infos.
func filled(t *testing.T, l ...api.Info) *env.Env {
	t.Helper()
	e := env.New()
	if f := e.Add(l...); f != api.OK {
		t.Fatalf("error %d", f)
	}
	return e
}

// basis: an environment with the sample, and with more.
func basis(t *testing.T, more ...api.Info) *env.Env {
	t.Helper()
	return filled(t, append(sample.Basis(), more...)...)
}

// enough fuel, as the chapter says, of what takes so many steps in normal.
func enough(steps int) int { return 4*steps + 100 }

// tells: is it told what is wanted, with so much left?
func tells(t *testing.T, what string, e *env.Env, x api.Term, fuel int, want api.Term, wantLeft int) {
	t.Helper()
	got, left, f := Form(e, x, fuel)
	if f != api.OK || left != wantLeft || !term.Same(got, want) {
		t.Fatalf("%.300s, with %d: error %d, left %d, want %d, %.500s, want %.500s", what, fuel, f, left, wantLeft, text(got), text(want))
	}
}

// fails: is that error told, and nothing else?
func fails(t *testing.T, what string, e *env.Env, x api.Term, fuel int, want api.Errno) {
	t.Helper()
	got, left, f := Form(e, x, fuel)
	if f != want || left != 0 || !zeroTerm(got) {
		t.Fatalf("%.300s, with %d: error %d, want %d, left %d, %.500s", what, fuel, f, want, left, text(got))
	}
}

// runs: is that told by just so many steps? With all that follows: with any more fuel the same, with less none.
func runs(t *testing.T, what string, e *env.Env, x, want api.Term, steps int) {
	t.Helper()
	for _, fuel := range []int{steps, steps + 1, enough(steps), math.MaxInt} {
		tells(t, what, e, x, fuel, want, fuel-steps)
	}
	for less := 1; less <= steps; less += 1 + less/2 {
		fails(t, what, e, x, steps-less, api.ErrFuel)
		fails(t, what, e, x, less-1, api.ErrFuel)
	}
}

// becomes: has x this form, by just so many steps, as in normal, and is that its own?
func becomes(t *testing.T, what string, e *env.Env, x, want api.Term, steps int) {
	t.Helper()
	n, left, f := normal.Form(e, x, steps)
	if f != api.OK || left != 0 || !term.Same(n, want) {
		t.Fatalf("%s: normal says error %d, left %d, %.300s, want %.300s", what, f, left, text(n), text(want))
	}
	runs(t, what, e, x, want, steps)
	runs(t, what+", asked again", e, want, want, 0)
	for _, fuel := range []int{-1, math.MinInt} {
		fails(t, what, e, x, fuel, api.ErrArg)
	}
	fails(t, what+", of no environment", nil, x, steps, api.ErrNil)
}

// stays: is x a normal form?
func stays(t *testing.T, what string, e *env.Env, x api.Term) {
	t.Helper()
	becomes(t, what, e, x, x, 0)
}

// ends: is there, of a term that may be, some term that may be, too, or ErrFuel, and no more left than there was?
func ends(t *testing.T, what string, e *env.Env, x api.Term, fuel int) {
	t.Helper()
	got, left, f := Form(e, x, fuel)
	switch {
	case f == api.ErrFuel && left == 0 && zeroTerm(got):
	case f == api.OK && left >= 0 && left <= fuel && term.May(got):
	default:
		t.Fatalf("%.300s: error %d, left %d of %d, %.300s", what, f, left, fuel, text(got))
	}
}

// obeyed: is x as normal says, if that tells a form with such fuel? What is answered is that, and how many steps it takes.
func obeyed(t *testing.T, e *env.Env, x api.Term, most int) (api.Term, int, bool) {
	t.Helper()
	if !term.May(x) {
		fails(t, "what may not be", e, x, most, api.ErrArg)
		return api.Term{}, 0, false
	}
	want, left, f := normal.Form(e, x, most)
	if f != api.OK {
		for _, fuel := range []int{0, most / 2, most} {
			ends(t, text(x), e, x, fuel)
		}
		return api.Term{}, 0, false
	}
	runs(t, text(x), e, x, want, most-left)
	return want, most - left, true
}
