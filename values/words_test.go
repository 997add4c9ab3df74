package values

import (
	"math"
	"testing"

	"batten/api"
	"batten/env"
	"batten/normal"
	"batten/reduce"
	"batten/sample"
	"batten/subst"
	"batten/term"
)

var (
	zero, two = sample.Zero, sample.Two

	srt, vr, con, prj = sample.Sort, sample.Var, sample.Const, sample.Proj
	app, lam, pi, let = sample.App, sample.Lam, sample.Pi, sample.Let
	apply, num        = sample.Apply, sample.Num
	mk, succ, count   = sample.Mk, sample.Succ, sample.Count
	first, second     = sample.First, sample.Second
	swap              = sample.Swap
	id, add           = sample.Id, sample.Add
	row, sum          = sample.List, sample.Sum
	text              = sample.Text

	axiom, def, theorem, ruled = sample.IsAxiom, sample.IsDef, sample.IsTheorem, sample.Rule
)

// Of the sample: axioms, a recursor at the level 0, and types.
var (
	n, a, f, p = con("N"), con("a"), con("f"), con("p")
	recN       = con("N.rec", zero)
	unary      = pi(n, n)
	couple     = sample.PairOf(n, n)
)

// lifted: a term, one binder further in.
func lifted(t api.Term) api.Term {
	t, _ = subst.Lift(t, 0, 1)
	return t
}

// filled: an environment with these infos.
func filled(t *testing.T, l ...api.Info) *env.Env {
	t.Helper()
	e := env.New()
	if f := e.Add(l...); f != api.OK {
		t.Fatalf("error %d", f)
	}
	return e
}

// basis: an environment with the sample, and with more.
func basis(t *testing.T, more ...api.Info) *env.Env {
	t.Helper()
	return filled(t, append(sample.Basis(), more...)...)
}

// enough fuel, as the chapter says, of what takes so many steps by putting terms in the place of variables.
func enough(steps int) int { return 4*steps + 100 }

// is what a value tells of itself.
type is struct {
	kind uint8
	name string
	args int
}

func tells(v *Value) is { return is{v.Kind(), v.Name(), v.Args()} }

// headOf: what the value of a term must tell whose weak head this is.
func headOf(w api.Term) is {
	h, l := term.Spine(w)
	return is{h.K, h.S, len(l)}
}

// reader reads all that waits in values, with what is left of fuel.
type reader struct {
	m   *Maker
	out bool // it was not enough
}

func readerOf(fuel int) reader { return reader{m: NewMaker(fuel)} }

// read: the term that a value stands for, with so many binders around it. Nothing is contracted.
func (r *reader) read(v *Value, under int) api.Term {
	if v == nil || r.out {
		return api.Term{}
	}
	t, own := v.Head().Read(under)
	for _, x := range own {
		t.T = append(t.T, r.waits(x))
	}
	for _, x := range v.List(under) {
		t = app(t, r.waits(x))
	}
	return t
}

func (r *reader) waits(p Part) api.Term {
	v := r.m.Value(p)
	r.out = r.out || v == nil
	return r.read(v, p.Under)
}

// plain: a term, all of which is put into weak heads by reduce, with what is left of fuel. Nothing is contracted.
func plain(e *env.Env, t api.Term, fuel int) (api.Term, int, bool) {
	w, fuel, g := reduce.Head(e, t, fuel)
	may := g == api.OK
	h, l := term.Spine(w)
	h = sample.Clone(h)
	in := func(x *api.Term) {
		if may {
			*x, fuel, may = plain(e, *x, fuel)
		}
	}
	for i := range h.T {
		in(&h.T[i])
	}
	for i := range l {
		in(&l[i])
	}
	return apply(h, l...), fuel, may
}

// none: is there no value, and nothing left, with that error?
func none(t *testing.T, what string, v *Value, left int, f, want api.Errno) {
	t.Helper()
	if v != nil || left != 0 || f != want {
		t.Fatalf("%.300s: error %d, want %d, left %d, %v", what, f, want, left, tells(v))
	}
}

// fails: has a term no value, with that error?
func fails(t *testing.T, what string, e *env.Env, x api.Term, fuel int, want api.Errno) {
	t.Helper()
	v, left, f := Of(e, x, fuel)
	none(t, what, v, left, f, want)
}

// some: is there a value that tells this, with so much left?
func some(t *testing.T, what string, v *Value, left int, f api.Errno, want is, wantLeft int) {
	t.Helper()
	if f != api.OK || v == nil || tells(v) != want || left != wantLeft {
		t.Fatalf("%.300s: error %d, %v, want %v, left %d, want %d", what, f, tells(v), want, left, wantLeft)
	}
}

// stands: does what waits in a value stand for the same as this term? (Nothing is said, if that takes too much.)
func stands(t *testing.T, what string, e *env.Env, v *Value, x api.Term) {
	t.Helper()
	reads(t, what, e, v, x, 3000)
}

// reads: does a value stand for the same as this term, if it is read with so much fuel, and that with as much as it takes?
func reads(t *testing.T, what string, e *env.Env, v *Value, x api.Term, fuel int) {
	t.Helper()
	want, _, may := plain(e, x, 3000)
	if !may || !term.May(want) {
		return
	}
	r := readerOf(fuel)
	if got := r.read(v, 0); r.out || !term.Same(got, want) {
		t.Fatalf("%.300s: %.500s, want %.500s (out: %v)", what, text(got), text(want), r.out)
	}
}

// waits: does what waits in a value stand for what waits in this weak head, and take no more?
func waits(t *testing.T, what string, e *env.Env, v *Value, w api.Term) {
	t.Helper()
	_, left, _ := plain(e, w, 3000)
	reads(t, what, e, v, w, 3000-left)
}

// has: has x such a value, by just so many steps? With all that follows: the same with any more fuel, with less none.
func has(t *testing.T, what string, e *env.Env, x api.Term, want is, steps int) *Value {
	t.Helper()
	for _, fuel := range []int{steps, steps + 1, steps + 1000, enough(steps), math.MaxInt} {
		v, left, f := Of(e, x, fuel)
		some(t, what, v, left, f, want, fuel-steps)
	}
	for less := 1; less <= steps; less += 1 + less/2 {
		fails(t, what, e, x, steps-less, api.ErrFuel)
		fails(t, what, e, x, less-1, api.ErrFuel)
	}
	for _, fuel := range []int{-1, -2, math.MinInt} {
		fails(t, what, e, x, fuel, api.ErrArg)
	}
	fails(t, what+", of no environment", nil, x, steps, api.ErrNil)
	v, _, _ := Of(e, x, steps)
	return v
}

// becomes: has x the value of this weak head, by just so many steps, and does reduce say so, too?
func becomes(t *testing.T, what string, e *env.Env, x, want api.Term, steps int) {
	t.Helper()
	w, left, f := reduce.Head(e, x, steps)
	if f != api.OK || left != 0 || !term.Same(w, want) {
		t.Fatalf("%s: reduce says error %d, left %d, %.300s, want %.300s", what, f, left, text(w), text(want))
	}
	waits(t, what, e, has(t, what, e, x, headOf(want), steps), want)
}

// stays: is x a weak head?
func stays(t *testing.T, what string, e *env.Env, x api.Term) {
	t.Helper()
	becomes(t, what, e, x, x, 0)
}

// ends: is there, of a term that may be, some value or ErrFuel, and no more left than there was?
func ends(t *testing.T, what string, e *env.Env, x api.Term, fuel int) {
	t.Helper()
	v, left, f := Of(e, x, fuel)
	if f == api.ErrFuel {
		none(t, what, v, left, f, api.ErrFuel)
		return
	}
	if f != api.OK || left < 0 || left > fuel || v.Kind() == 0 {
		t.Fatalf("%.300s: error %d, left %d of %d, %v", what, f, left, fuel, tells(v))
	}
}

// obeyed: is the value of x as reduce says of its weak head, if that is there with such fuel? What is answered is that.
func obeyed(t *testing.T, e *env.Env, x api.Term, most int) (api.Term, int, bool) {
	t.Helper()
	if !term.May(x) {
		fails(t, "what may not be", e, x, most, api.ErrArg)
		return api.Term{}, 0, false
	}
	w, left, f := reduce.Head(e, x, most)
	if f != api.OK {
		for _, fuel := range []int{0, most / 2, most} {
			ends(t, text(x), e, x, fuel)
		}
		return api.Term{}, 0, false
	}
	waits(t, text(x), e, has(t, text(x), e, x, headOf(w), most-left), w)
	return w, most - left, true
}

// applies: is what the value of x becomes of that of y as reduce says of the application? What is answered is its value, or nil, if something takes too much.
func applies(t *testing.T, e *env.Env, x, y api.Term, most int) *Value {
	t.Helper()
	whole := app(x, y)
	w, left, g := reduce.Head(e, whole, most)
	_, leftX, gX := normal.Form(e, x, most)
	_, leftY, gY := normal.Form(e, y, most)
	v, _, _ := Of(e, x, most)
	u, _, _ := Of(e, y, most)
	if g != api.OK || gX != api.OK || gY != api.OK || v == nil || u == nil {
		return nil
	}
	what := text(whole)
	fuel := enough(most - left + most - leftX + most - leftY)
	r, rest, g := v.Apply(u, fuel)
	if g != api.OK || rest < 0 || rest > fuel || fuel-rest > most-left {
		t.Fatalf("%.300s: error %d, left %d of %d, reduce takes %d", what, g, rest, fuel, most-left)
	}
	r = applied(t, what, v, u, headOf(w), fuel-rest)
	waits(t, what, e, r, w)
	return r
}

// applied: has v, applied to u, such a value, by just so many steps? With all that follows.
func applied(t *testing.T, what string, v, u *Value, want is, steps int) *Value {
	t.Helper()
	for _, fuel := range []int{steps, steps + 1, enough(steps), math.MaxInt} {
		r, left, f := v.Apply(u, fuel)
		some(t, what, r, left, f, want, fuel-steps)
	}
	for less := 1; less <= steps; less += 1 + less/2 {
		r, left, f := v.Apply(u, steps-less)
		none(t, what, r, left, f, api.ErrFuel)
	}
	for _, fuel := range []int{-1, math.MinInt} {
		r, left, f := v.Apply(u, fuel)
		none(t, what, r, left, f, api.ErrArg)
	}
	r, _, _ := v.Apply(u, steps)
	return r
}
