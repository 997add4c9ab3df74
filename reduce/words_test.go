package reduce

import (
	"math"
	"testing"

	"batten/api"
	"batten/env"
	"batten/rules"
	"batten/sample"
	"batten/subst"
	"batten/term"
)

var (
	zero, two = sample.Zero, sample.Two

	srt, vr, con, prj = sample.Sort, sample.Var, sample.Const, sample.Proj
	app, lam, pi, let = sample.App, sample.Lam, sample.Pi, sample.Let
	apply, num        = sample.Apply, sample.Num
	mk, succ, count   = sample.Mk, sample.Succ, sample.Count
	text, zeroTerm    = sample.Text, sample.IsZero

	axiom, def, theorem, rule = sample.IsAxiom, sample.IsDef, sample.IsTheorem, sample.Rule
)

// Of the sample: axioms, recursors at the level 0, and the type of functions of numbers.
var (
	n, a, f, p = con("N"), con("a"), con("f"), con("p")
	recN       = con("N.rec", zero)
	recList    = con("List.rec", zero, zero)
	unary      = pi(n, n)
)

// filled: an environment with these infos.
func filled(t *testing.T, l ...api.Info) *env.Env {
	t.Helper()
	e := env.New()
	if f := e.Add(l...); f != api.OK {
		t.Fatalf("error %d", f)
	}
	return e
}

// basis: an environment with the sample, and with more.
func basis(t *testing.T, more ...api.Info) *env.Env {
	t.Helper()
	return filled(t, append(sample.Basis(), more...)...)
}

// words make steps as the table of the chapter says, by a function that calls itself.
type words struct {
	e    *env.Env
	left int
}

// head: a weak head, and true; false, if the fuel goes out.
func (w *words) head(t api.Term) (api.Term, bool) {
	for {
		u, is, may := w.step(t)
		switch {
		case !may || !term.May(u) || is && w.left == 0:
			w.left = 0
			return api.Term{}, false
		case !is:
			return u, true
		}
		w.left--
		t = u
	}
}

// step: what t becomes by one; or a weak head, and false. All is over, if the fuel goes out within.
func (w *words) step(t api.Term) (u api.Term, is, may bool) {
	h, l := term.Spine(t)
	switch h.K {
	case api.Lam:
		if len(l) == 0 {
			return t, false, true
		}
		b, f := subst.Inst(h.T[1], l[0])
		return apply(b, l[1:]...), true, f == api.OK
	case api.Let:
		b, f := subst.Inst(h.T[2], h.T[1])
		return apply(b, l...), true, f == api.OK
	case api.Proj:
		m, may := w.head(h.T[0])
		if x, is := rules.Field(w.e, h.S, h.N, m); is {
			return apply(x, l...), true, may
		}
		return apply(prj(h.S, h.N, m), l...), false, may
	}
	if u, f := rules.Delta(w.e, t); f != api.ErrNone {
		return u, true, true
	}
	at, is := rules.Major(w.e, t)
	if !is {
		return t, false, true
	}
	m, may := w.head(l[at])
	if u, f := rules.Iota(w.e, t, m); f != api.ErrNone {
		return u, true, may
	}
	l[at] = m
	return apply(h, l...), false, may
}

// tells: is it told what is wanted, with so much left, or that error and nothing else?
func tells(t *testing.T, what string, e *env.Env, x api.Term, fuel int, want api.Term, wantLeft int, wantError api.Errno) {
	t.Helper()
	got, left, f := Head(e, x, fuel)
	if f != wantError || left != wantLeft || !term.Same(got, want) && !(zeroTerm(got) && zeroTerm(want)) {
		t.Fatalf("%.200s, with %d: error %d, want %d, left %d, want %d, %.300s, want %.300s", what, fuel, f, wantError, left, wantLeft, text(got), text(want))
	}
}

// becomes: has x this weak head, by just so many steps? With all that follows of it: with any more fuel the same, with less none, and asked again it is itself.
func becomes(t *testing.T, what string, e *env.Env, x, want api.Term, steps int) {
	t.Helper()
	was := sample.Clone(x)
	for _, more := range []int{0, 1, 2, 1000, 1 << 40, math.MaxInt - steps} {
		tells(t, what, e, x, steps+more, want, more, api.OK)
	}
	for less := 1; less <= steps; less += 1 + less/2 {
		tells(t, what, e, x, steps-less, api.Term{}, 0, api.ErrFuel)
		tells(t, what, e, x, less-1, api.Term{}, 0, api.ErrFuel)
	}
	for _, fuel := range []int{0, 1, math.MaxInt} {
		tells(t, what+", asked again", e, want, fuel, want, fuel, api.OK)
	}
	for _, fuel := range []int{-1, -2, math.MinInt} {
		tells(t, what, e, x, fuel, api.Term{}, 0, api.ErrArg)
	}
	tells(t, what+", of no environment", nil, x, steps, api.Term{}, 0, api.ErrNil)
	if !term.Same(x, was) {
		t.Errorf("%s: what was handed in is %.300s, was %.300s", what, text(x), text(was))
	}
}

// stays: is x a weak head?
func stays(t *testing.T, what string, e *env.Env, x api.Term) {
	t.Helper()
	becomes(t, what, e, x, x, 0)
}

// ends: does the fuel go out, however much there is?
func ends(t *testing.T, what string, e *env.Env, x api.Term) {
	t.Helper()
	if !term.May(x) {
		t.Fatalf("%s: may not be", what)
	}
	for _, fuel := range []int{0, 1, 2, 100, 1 << 40, math.MaxInt} {
		tells(t, what, e, x, fuel, api.Term{}, 0, api.ErrFuel)
	}
}

// held: is it with this fuel as the words say?
func held(t *testing.T, e *env.Env, x api.Term, fuel int) {
	t.Helper()
	w := words{e, fuel}
	want, is := w.head(x)
	f := api.OK
	if !is {
		f = api.ErrFuel
	}
	tells(t, "of "+text(x), e, x, fuel, want, w.left, f)
}

// obeyed: is x as the words say, and as follows of them, with fuel up to most?
func obeyed(t *testing.T, e *env.Env, x api.Term, most int) {
	t.Helper()
	if !term.May(x) {
		tells(t, "what may not be", e, x, most, api.Term{}, 0, api.ErrArg)
		return
	}
	w := words{e, most}
	if want, is := w.head(x); is {
		becomes(t, text(x), e, x, want, most-w.left)
		return
	}
	for _, fuel := range []int{0, 1, most / 2, most - 1, most} {
		held(t, e, x, max(fuel, 0))
	}
}
