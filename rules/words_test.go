package rules

import (
	"slices"
	"testing"

	"batten/api"
	"batten/env"
	"batten/sample"
	"batten/subst"
	"batten/term"
)

var (
	zero, two = sample.Zero, sample.Two

	srt, vr, con, prj = sample.Sort, sample.Var, sample.Const, sample.Proj
	app, lam, pi, let = sample.App, sample.Lam, sample.Pi, sample.Let
	apply, num        = sample.Apply, sample.Num
	text, zeroTerm    = sample.Text, sample.IsZero

	axiom, def, theorem, rule = sample.IsAxiom, sample.IsDef, sample.IsTheorem, sample.Rule
	infoText                  = sample.InfoText
)

// words are infos, in the order in which they were added, and what the chapter's words say of them.
type words []api.Info

func wordsOf(e *env.Env) words {
	var w words
	for _, s := range e.List() {
		x, _ := e.Find(s)
		w = append(w, x)
	}
	return w
}

func (w words) info(s string) (api.Info, bool) {
	i := slices.IndexFunc(w, func(x api.Info) bool { return x.Name == s })
	if i < 0 {
		return api.Info{}, false
	}
	return w[i], true
}

// apart: the head and the arguments of a term that may be.
func apart(t api.Term) (api.Term, []api.Term) {
	if t.K != api.App {
		return t, nil
	}
	h, l := apart(t.T[0])
	return h, append(l, t.T[1])
}

// made: a closed term at these levels, applied.
func made(b api.Term, ls []api.Level, l []api.Term) (api.Term, api.Errno) {
	b, f := subst.Levels(b, ls)
	b = apply(b, l...)
	if f != api.OK || !term.May(b) {
		return api.Term{}, api.ErrMany
	}
	return b, api.OK
}

func (w words) delta(t api.Term) (api.Term, api.Errno) {
	if !term.May(t) {
		return api.Term{}, api.ErrArg
	}
	h, l := apart(t)
	x, is := w.info(h.S)
	if h.K == api.Const && is && x.Kind == api.IsDef && len(h.Ls) == x.Params {
		return made(x.Value, h.Ls, l)
	}
	return api.Term{}, api.ErrNone
}

func (w words) major(t api.Term) (int, bool) {
	if !term.May(t) {
		return 0, false
	}
	h, l := apart(t)
	x, is := w.info(h.S)
	n := x.Fixed + x.Motives + x.Minors + x.Index
	if h.K == api.Const && is && x.Kind == api.IsRec && len(h.Ls) == x.Params && len(l) > n {
		return n, true
	}
	return 0, false
}

func (w words) iota(t, major api.Term) (api.Term, api.Errno) {
	if !term.May(t) || !term.May(major) {
		return api.Term{}, api.ErrArg
	}
	n, is := w.major(t)
	h, l := apart(t)
	c, m := apart(major)
	x, _ := w.info(h.S)
	y, there := w.info(c.S)
	if !is || c.K != api.Const || !there || y.Kind != api.IsCtor {
		return api.Term{}, api.ErrNone
	}
	for _, r := range x.Rules {
		if r.Ctor != c.S {
			continue
		}
		if len(m) != y.Fixed+r.Fields {
			break
		}
		all := append([]api.Term{}, l[:x.Fixed+x.Motives+x.Minors]...)
		return made(r.Body, h.Ls, append(append(all, m[y.Fixed:]...), l[n+1:]...))
	}
	return api.Term{}, api.ErrNone
}

func (w words) field(s string, n int, t api.Term) (api.Term, bool) {
	x, is := w.info(s)
	if !term.May(t) || !is || x.Kind != api.IsType || !x.Record {
		return api.Term{}, false
	}
	c, m := apart(t)
	y, is := w.info(c.S)
	if c.K != api.Const || !is || y.Kind != api.IsCtor || y.Of != s || len(m) != y.Fixed+y.Fields || n < 0 || n > y.Fields-1 {
		return api.Term{}, false
	}
	return m[y.Fixed+n], true
}

func (w words) record(s string) (api.Info, bool) {
	x, is := w.info(s)
	if !is || x.Kind != api.IsType || !x.Record {
		return api.Info{}, false
	}
	for _, y := range w {
		if y.Kind == api.IsCtor && y.Of == s {
			return y, true
		}
	}
	return api.Info{}, false
}

// filled: an environment with these infos.
func filled(t *testing.T, l ...api.Info) *env.Env {
	t.Helper()
	e := env.New()
	if f := e.Add(l...); f != api.OK {
		t.Fatalf("error %d", f)
	}
	return e
}

// basis: an environment with the sample, and with more.
func basis(t *testing.T, more ...api.Info) *env.Env {
	t.Helper()
	return filled(t, append(sample.Basis(), more...)...)
}

// tells: is it told what is wanted, or that error and nothing else?
func tells(t *testing.T, what string, got api.Term, f api.Errno, want api.Term, wantError api.Errno) {
	t.Helper()
	if f != wantError || text(got) != text(want) {
		t.Errorf("%s: error %d, want %d, %.2000s, want %.2000s", what, f, wantError, text(got), text(want))
	}
}

// holds: is all as the words say, of each term, of each two of them, and of each name?
func holds(t *testing.T, e *env.Env, terms, majors []api.Term, names []string) {
	t.Helper()
	w := wordsOf(e)
	for _, x := range terms {
		got, f := Delta(e, x)
		want, g := w.delta(x)
		tells(t, "Delta of "+text(x), got, f, want, g)
		n, is := Major(e, x)
		if m, wantIs := w.major(x); n != m || is != wantIs {
			t.Errorf("Major of %s: %d, %v, want %d, %v", text(x), n, is, m, wantIs)
		}
		for _, y := range majors {
			got, f := Iota(e, x, y)
			want, g := w.iota(x, y)
			tells(t, "Iota of "+text(x)+" and "+text(y), got, f, want, g)
		}
	}
	for _, s := range names {
		got, is := Record(e, s)
		if want, wantIs := w.record(s); is != wantIs || infoText(got) != infoText(want) {
			t.Errorf("Record of %q: %v, %s, want %v, %s", s, is, infoText(got), wantIs, infoText(want))
		}
		for _, x := range append(majors, terms...) {
			for n := -1; n < 5; n++ {
				got, is := Field(e, s, n, x)
				if want, wantIs := w.field(s, n, x); is != wantIs || text(got) != text(want) {
					t.Errorf("Field %d of %q in %s: %v, %s", n, s, text(x), is, text(got))
				}
			}
		}
	}
	if t.Failed() {
		t.FailNow()
	}
}
