package normal

import (
	"math"
	"testing"

	"batten/api"
	"batten/env"
	"batten/reduce"
	"batten/rules"
	"batten/sample"
	"batten/subst"
	"batten/term"
)

var (
	zero, two = sample.Zero, sample.Two

	srt, vr, con, prj = sample.Sort, sample.Var, sample.Const, sample.Proj
	app, lam, pi, let = sample.App, sample.Lam, sample.Pi, sample.Let
	apply, num        = sample.Apply, sample.Num
	mk, succ, count   = sample.Mk, sample.Succ, sample.Count
	first, second     = sample.First, sample.Second
	both, swap        = sample.Both, sample.Swap
	id, add           = sample.Id, sample.Add
	text, zeroTerm    = sample.Text, sample.IsZero

	axiom, def = sample.IsAxiom, sample.IsDef
)

// Of the sample: axioms, a recursor at the level 0, and types.
var (
	n, a, f, p = con("N"), con("a"), con("f"), con("p")
	recN       = con("N.rec", zero)
	unary      = pi(n, n)
	couple     = sample.PairOf(n, n)
)

// lifted: a term, one binder further in.
func lifted(t api.Term) api.Term {
	t, _ = subst.Lift(t, 0, 1)
	return t
}

// filled: an environment with these infos.
func filled(t *testing.T, l ...api.Info) *env.Env {
	t.Helper()
	e := env.New()
	if f := e.Add(l...); f != api.OK {
		t.Fatalf("error %d", f)
	}
	return e
}

// basis: an environment with the sample, and with more.
func basis(t *testing.T, more ...api.Info) *env.Env {
	t.Helper()
	return filled(t, append(sample.Basis(), more...)...)
}

// words make forms as the chapter says, by a function that calls itself.
type words struct {
	e    *env.Env
	left int
}

// form: a normal form, and true; false, if the fuel goes out, or something is too great.
func (w *words) form(t api.Term) (api.Term, bool) {
	t, left, f := reduce.Head(w.e, t, w.left)
	w.left = left
	h, l := term.Spine(t)
	h = sample.Clone(h)
	may := f == api.OK
	for i := range h.T {
		h.T[i], may = w.behind(h.T[i], may)
	}
	for i := range l {
		l[i], may = w.behind(l[i], may)
	}
	t = apply(h, l...)
	if !may || !term.May(t) {
		w.left = 0
		return api.Term{}, false
	}
	for {
		u := w.shorter(t)
		if zeroTerm(u) {
			return t, true
		}
		t = u
	}
}

func (w *words) behind(t api.Term, may bool) (api.Term, bool) {
	if !may {
		return t, false
	}
	return w.form(t)
}

// shorter: what a term is contracted to, by one that fits; a zero one, if none does.
func (w *words) shorter(t api.Term) api.Term {
	if t.K == api.Lam && t.T[1].K == api.App && term.Same(t.T[1].T[1], vr(0)) && !term.Has(t.T[1].T[0], 0) {
		g, _ := subst.Inst(t.T[1].T[0], a) // in the place of a variable that is not there
		return g
	}
	h, l := term.Spine(t)
	for _, s := range w.e.List() {
		c, is := rules.Record(w.e, s)
		if !is || h.K != api.Const || h.S != c.Name || len(l) != c.Fixed+c.Fields || c.Fields == 0 || l[c.Fixed].K != api.Proj {
			continue
		}
		y, all := l[c.Fixed].T[0], true
		for i := range c.Fields {
			all = all && term.Same(l[c.Fixed+i], prj(s, i, y))
		}
		if all {
			return y
		}
	}
	return api.Term{}
}

// tells: is it told what is wanted, with so much left, or that error and nothing else?
func tells(t *testing.T, what string, e *env.Env, x api.Term, fuel int, want api.Term, wantLeft int, wantError api.Errno) {
	t.Helper()
	got, left, f := Form(e, x, fuel)
	if f != wantError || left != wantLeft || !term.Same(got, want) && !(zeroTerm(got) && zeroTerm(want)) {
		t.Fatalf("%.200s, with %d: error %d, want %d, left %d, want %d, %.300s, want %.300s", what, fuel, f, wantError, left, wantLeft, text(got), text(want))
	}
}

// says: is that said of two terms, and back?
func says(t *testing.T, what string, e *env.Env, x, y api.Term, fuel int, want api.Verdict) {
	t.Helper()
	for range 2 {
		if v, f := Alike(e, x, y, fuel); v != want || f != api.OK {
			t.Fatalf("%.200s, with %d: %d, error %d, want %d: %.300s, %.300s", what, fuel, v, f, want, text(x), text(y))
		}
		x, y = y, x
	}
}

// becomes: has x this form, by just so many steps? With all that follows of it: with any more fuel the same, with less none, and it is its own.
func becomes(t *testing.T, what string, e *env.Env, x, want api.Term, steps int) {
	t.Helper()
	was := sample.Clone(x)
	for _, more := range []int{0, 1, 1000, math.MaxInt - steps} {
		tells(t, what, e, x, steps+more, want, more, api.OK)
	}
	for less := 1; less <= steps; less += 1 + less/2 {
		tells(t, what, e, x, steps-less, api.Term{}, 0, api.ErrFuel)
		tells(t, what, e, x, less-1, api.Term{}, 0, api.ErrFuel)
		says(t, what, e, x, x, steps+steps-less, api.Unsure)
	}
	for _, fuel := range []int{0, math.MaxInt} {
		tells(t, what+", asked again", e, want, fuel, want, fuel, api.OK)
	}
	says(t, what+", and its form", e, x, want, steps, api.Alike)
	for _, fuel := range []int{-1, math.MinInt} {
		tells(t, what, e, x, fuel, api.Term{}, 0, api.ErrArg)
	}
	tells(t, what+", of no environment", nil, x, steps, api.Term{}, 0, api.ErrNil)
	if !term.Same(x, was) {
		t.Errorf("%s: what was handed in is %.300s, was %.300s", what, text(x), text(was))
	}
}

// stays: is x a normal form?
func stays(t *testing.T, what string, e *env.Env, x api.Term) {
	t.Helper()
	becomes(t, what, e, x, x, 0)
}

// ends: does the fuel go out, however much there is?
func ends(t *testing.T, what string, e *env.Env, x api.Term) {
	t.Helper()
	if !term.May(x) {
		t.Fatalf("%s: may not be", what)
	}
	for _, fuel := range []int{0, 2, 1000, math.MaxInt} {
		tells(t, what, e, x, fuel, api.Term{}, 0, api.ErrFuel)
	}
	for _, y := range []api.Term{x, n, con("one")} {
		says(t, what, e, x, y, math.MaxInt, api.Unsure)
	}
}

// obeyed: is x as the words say, with fuel up to most? What is answered is its form, and how many steps that takes, if it has one with that fuel.
func obeyed(t *testing.T, e *env.Env, x api.Term, most int) (api.Term, int, bool) {
	t.Helper()
	if !term.May(x) {
		tells(t, "what may not be", e, x, most, api.Term{}, 0, api.ErrArg)
		return api.Term{}, 0, false
	}
	w := words{e, most}
	want, is := w.form(x)
	if !is {
		for _, fuel := range []int{0, most / 2, most - 1, most} {
			tells(t, text(x), e, x, max(fuel, 0), api.Term{}, 0, api.ErrFuel)
		}
		return api.Term{}, 0, false
	}
	steps := most - w.left
	tells(t, text(x), e, x, steps, want, 0, api.OK)
	tells(t, text(x), e, x, steps+7, want, 7, api.OK)
	if steps > 0 {
		tells(t, text(x), e, x, steps-1, api.Term{}, 0, api.ErrFuel)
	}
	return want, steps, true
}
