package equal

import (
	"math"
	"testing"

	"batten/api"
	"batten/env"
	"batten/normal"
	"batten/sample"
	"batten/subst"
	"batten/term"
)

var (
	zero, two = sample.Zero, sample.Two

	srt, vr, con, prj = sample.Sort, sample.Var, sample.Const, sample.Proj
	app, lam, pi, let = sample.App, sample.Lam, sample.Pi, sample.Let
	apply, num        = sample.Apply, sample.Num
	mk, succ, count   = sample.Mk, sample.Succ, sample.Count
	first, second     = sample.First, sample.Second
	paired, swap      = sample.Both, sample.Swap
	id, add           = sample.Id, sample.Add
	row, sum          = sample.List, sample.Sum
	text              = sample.Text

	axiom, def = sample.IsAxiom, sample.IsDef
)

// Of the sample: axioms, a recursor at the level 0, and types.
var (
	n, a, f, p = con("N"), con("a"), con("f"), con("p")
	recN       = con("N.rec", zero)
	unary      = pi(n, n)
	couple     = sample.PairOf(n, n)
)

// lifted: a term, one binder further in.
func lifted(t api.Term) api.Term {
	t, _ = subst.Lift(t, 0, 1)
	return t
}

// filled: an environment with these infos.
func filled(t *testing.T, l ...api.Info) *env.Env {
	t.Helper()
	e := env.New()
	if f := e.Add(l...); f != api.OK {
		t.Fatalf("error %d", f)
	}
	return e
}

// basis: an environment with the sample, and with more.
func basis(t *testing.T, more ...api.Info) *env.Env {
	t.Helper()
	return filled(t, append(sample.Basis(), more...)...)
}

// enough fuel, as the chapter says, of two whose normal forms take so many steps.
func enough(steps int) int { return 4*steps + 100 }

// told: the verdict as which two terms are the same, or not.
func told(same bool) api.Verdict {
	if same {
		return api.Alike
	}
	return api.Unlike
}

// says: is that the verdict, and is so much left?
func says(t *testing.T, what string, e *env.Env, x, y api.Term, fuel int, want api.Verdict, wantLeft int) {
	t.Helper()
	if v, left, f := Alike(e, x, y, fuel); v != want || left != wantLeft || f != api.OK {
		t.Fatalf("%.300s, with %d: error %d, %d, want %d, left %d, want %d:\n%.500s\n%.500s", what, fuel, f, v, want, left, wantLeft, text(x), text(y))
	}
}

// fails: is that error told, and nothing else?
func fails(t *testing.T, what string, e *env.Env, x, y api.Term, fuel int, want api.Errno) {
	t.Helper()
	if v, left, f := Alike(e, x, y, fuel); v != 0 || left != 0 || f != want {
		t.Fatalf("%.300s, with %d: %d, left %d, error %d, want %d", what, fuel, v, left, f, want)
	}
}

// tells: is that the verdict, either way round, with some fuel left, or none?
func tells(t *testing.T, what string, e *env.Env, x, y api.Term, fuel int, want api.Verdict) {
	t.Helper()
	for _, l := range [][2]api.Term{{x, y}, {y, x}} {
		if v := ends(t, what, e, l[0], l[1], fuel); v != want {
			t.Fatalf("%.300s, with %d: %d, want %d:\n%.500s\n%.500s", what, fuel, v, want, text(l[0]), text(l[1]))
		}
	}
}

// runs: is that the verdict, with so much fuel, by just some number of steps? With all that follows: with any more fuel the same, with less Unsure; and all of that the other way round.
func runs(t *testing.T, what string, e *env.Env, x, y api.Term, most int, want api.Verdict) int {
	t.Helper()
	_, left, _ := Alike(e, x, y, most)
	steps := most - left
	if left < 0 || left > most {
		t.Fatalf("%.300s: left %d of %d", what, left, most)
	}
	for _, l := range [][2]api.Term{{x, y}, {y, x}} {
		for _, fuel := range []int{steps, steps + 1, most, math.MaxInt} {
			says(t, what, e, l[0], l[1], fuel, want, fuel-steps)
		}
		for less := 1; less <= steps; less += 1 + less/2 {
			says(t, what, e, l[0], l[1], steps-less, api.Unsure, 0)
			says(t, what, e, l[0], l[1], less-1, api.Unsure, 0)
		}
	}
	return steps
}

// holds: are two as is wanted, as in normal, with what is enough? How many steps that takes is told.
func holds(t *testing.T, what string, e *env.Env, x, y api.Term, want api.Verdict) int {
	t.Helper()
	const most = 1 << 20
	_, left, f := normal.Form(e, x, most)
	_, rest, g := normal.Form(e, y, most)
	both := 2*most - left - rest
	if v, h := normal.Alike(e, x, y, both); v != want || f != api.OK || g != api.OK || h != api.OK {
		t.Fatalf("%.300s: normal says %d, want %d, errors %d, %d, %d:\n%.500s\n%.500s", what, v, want, f, g, h, text(x), text(y))
	}
	for _, fuel := range []int{-1, math.MinInt} {
		fails(t, what, e, x, y, fuel, api.ErrArg)
	}
	fails(t, what+", of no environment", nil, x, y, both, api.ErrNil)
	return runs(t, what, e, x, y, enough(both), want)
}

func same(t *testing.T, what string, e *env.Env, x, y api.Term) {
	t.Helper()
	holds(t, what, e, x, y, api.Alike)
}

func other(t *testing.T, what string, e *env.Env, x, y api.Term) {
	t.Helper()
	holds(t, what, e, x, y, api.Unlike)
}

// form of a term, as normal tells it.
type form struct {
	x, n  api.Term
	text  string
	steps int
	is    bool
}

func formOf(e *env.Env, x api.Term, most int) form {
	n, left, f := normal.Form(e, x, most)
	return form{x, n, text(n), most - left, f == api.OK}
}

// formsOf: those of a list that have a form, with so much fuel.
func formsOf(e *env.Env, most int, l ...api.Term) []form {
	var all []form
	for _, x := range l {
		if f := formOf(e, x, most); f.is {
			all = append(all, f)
		}
	}
	return all
}

// each two of a list are as normal says: all with what is enough, some with all that follows.
func each(t *testing.T, what string, e *env.Env, l []form, some int) {
	t.Helper()
	k := 0
	for _, x := range l {
		for _, y := range l {
			k++
			fuel, want := enough(x.steps+y.steps), told(x.text == y.text)
			if want == api.Alike || k%some == 0 {
				runs(t, what, e, x.x, y.x, fuel, want)
				continue
			}
			tells(t, what, e, x.x, y.x, fuel, want)
		}
	}
}

// ends: is there some verdict of two that may be, and no more left than there was?
func ends(t *testing.T, what string, e *env.Env, x, y api.Term, fuel int) api.Verdict {
	t.Helper()
	v, left, f := Alike(e, x, y, fuel)
	if f != api.OK || v > api.Unsure || left < 0 || left > fuel || v == api.Unsure && left != 0 {
		t.Fatalf("%.300s: %d, left %d of %d, error %d", what, v, left, fuel, f)
	}
	return v
}

// obeyed: are two as normal says, if that tells both forms with such fuel?
func obeyed(t *testing.T, e *env.Env, x, y api.Term, most int) (api.Verdict, bool) {
	t.Helper()
	if !term.May(x) || !term.May(y) {
		fails(t, "what may not be", e, x, y, most, api.ErrArg)
		return 0, false
	}
	l := formsOf(e, most, x, y)
	if len(l) < 2 {
		for _, fuel := range []int{0, most / 2, most} {
			ends(t, text(x), e, x, y, fuel)
		}
		return 0, false
	}
	want := told(l[0].text == l[1].text)
	runs(t, text(x), e, x, y, enough(l[0].steps+l[1].steps), want)
	return want, true
}
