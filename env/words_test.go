package env

import (
	"slices"
	"testing"

	"batten/api"
	"batten/sample"
	"batten/subst"
	"batten/term"
)

var (
	zero, two, param, great = sample.Zero, sample.Two, sample.Param, sample.Great

	srt, vr, con, prj = sample.Sort, sample.Var, sample.Const, sample.Proj
	app, lam, pi, let = sample.App, sample.Lam, sample.Pi, sample.Let
	text, zeroTerm    = sample.Text, sample.IsZero

	axiom, def, theorem, rule = sample.IsAxiom, sample.IsDef, sample.IsTheorem, sample.Rule
	infoText, cloneInfo       = sample.InfoText, sample.CloneInfo
)

// words is an environment as the chapter's words say it: infos, in the order in which they were added.
type words struct{ l []api.Info }

// in: where the first info of a name stands in a list; -1: nowhere.
func in(l []api.Info, s string) int {
	return slices.IndexFunc(l, func(x api.Info) bool { return x.Name == s })
}

// looked: what a term that may be has in it: a free variable, all parameters up to the greatest one, names.
type looked struct {
	free   bool
	params int
	names  []string
}

func (k *looked) look(t api.Term, under int) {
	k.free = k.free || t.K == api.Var && t.N >= under
	for _, l := range t.Ls {
		for i, n := range l.P {
			if n >= 0 {
				k.params = max(k.params, i+1)
			}
		}
	}
	if t.K == api.Const || t.K == api.Proj {
		k.names = append(k.names, t.S)
	}
	for i, x := range t.T {
		more := 0
		if (t.K == api.Lam || t.K == api.Pi) && i == 1 || t.K == api.Let && i == 2 {
			more = 1
		}
		k.look(x, under+more)
	}
}

// fault: what is wrong first with the i-th one of l.
func (w *words) fault(l []api.Info, i int) api.Errno {
	x := l[i]
	if !term.Name(x.Name) || in(w.l, x.Name) >= 0 || in(l[:i], x.Name) >= 0 {
		return api.ErrName
	}
	numbers := []int{x.Fixed, x.Index, x.No, x.Fields, x.Motives, x.Minors, x.Ctors}
	terms := []api.Term{x.Type}
	of := l
	if x.Kind == api.IsDef || x.Kind == api.IsTheorem {
		terms, of = append(terms, x.Value), l[:i]
	}
	for _, r := range x.Rules {
		numbers, terms = append(numbers, r.Fields), append(terms, r.Body)
	}
	if x.Kind < 1 || x.Kind > 6 || slices.Min(numbers) < 0 || slices.Max(numbers) > 1000 {
		return api.ErrArg
	}
	if x.Params < 0 || x.Params > 4 {
		return api.ErrLevel
	}
	var all looked
	for _, t := range terms {
		if !term.May(t) {
			return api.ErrVar
		}
		all.look(t, 0)
		if all.free {
			return api.ErrVar
		}
		if all.params > x.Params {
			return api.ErrLevel
		}
	}
	for _, s := range all.names {
		if in(w.l, s) < 0 && in(of, s) < 0 {
			return api.ErrNone
		}
	}
	return api.OK
}

func (w *words) add(l ...api.Info) api.Errno {
	if len(w.l)+len(l) > 4096 {
		return api.ErrMany
	}
	for i := range l {
		if f := w.fault(l, i); f != api.OK {
			return f
		}
	}
	for _, x := range l {
		x = cloneInfo(x)
		x.Height = 0
		switch x.Kind {
		case api.IsDef:
			x.Height = 1 + w.height(x.Value)
		case api.IsTheorem:
		default:
			x.Value = api.Term{}
		}
		w.l = append(w.l, x)
	}
	return api.OK
}

// height of a term that may be.
func (w *words) height(t api.Term) int {
	var k looked
	k.look(t, 0)
	h := 0
	for _, s := range k.names {
		if i := in(w.l, s); i >= 0 {
			h = max(h, w.l[i].Height)
		}
	}
	return h
}

func (w *words) clone() *words { return &words{slices.Clone(w.l)} }

// holds: is in the environment what the words say, and nothing else?
func holds(t *testing.T, e *Env, w *words) {
	t.Helper()
	var names []string
	for _, x := range w.l {
		names = append(names, x.Name)
	}
	if l := e.List(); !slices.Equal(l, names) {
		t.Fatalf("List: %q, want %q", l, names)
	}
	for _, x := range w.l {
		got, is := e.Find(x.Name)
		if !is || infoText(got) != infoText(x) {
			t.Fatalf("Find of %q: %v, %.2000s, want %.2000s", x.Name, is, infoText(got), infoText(x))
		}
		gives(t, e, x)
	}
	for _, s := range []string{"", "not there", "N.", "no", sample.Name32[:31], sample.Name33} {
		if in(w.l, s) < 0 {
			isNot(t, e, s)
		}
	}
}

// gives: are an info's type and value answered of Consts of its name, and of the wrong ones errors?
func gives(t *testing.T, e *Env, x api.Info) {
	t.Helper()
	ls := []api.Level{two, sample.P(1, 1), sample.Number(0), sample.P(3, 2), zero}
	for n := range 5 {
		c := con(x.Name, ls[:n]...)
		wantType, f := subst.Levels(x.Type, ls[:n])
		wantValue, g := subst.Levels(x.Value, ls[:n])
		switch {
		case n != x.Params:
			f, g = api.ErrLevel, api.ErrLevel
		case x.Kind != api.IsDef:
			g = api.ErrNone
		}
		if f != api.OK {
			wantType = api.Term{}
		}
		if g != api.OK {
			wantValue = api.Term{}
		}
		if got, h := e.Type(c); h != f || text(got) != text(wantType) {
			t.Fatalf("Type of %s at %d levels: error %d, want %d, %.2000s, want %.2000s", x.Name, n, h, f, text(got), text(wantType))
		}
		if got, h := e.Value(c); h != g || text(got) != text(wantValue) {
			t.Fatalf("Value of %s at %d levels: error %d, want %d, %.2000s, want %.2000s", x.Name, n, h, g, text(got), text(wantValue))
		}
		if got := e.Height(app(srt(zero), c)); got != x.Height {
			t.Fatalf("Height of %s: %d, want %d", x.Name, got, x.Height)
		}
	}
}

// isNot: is nothing of that name there?
func isNot(t *testing.T, e *Env, s string) {
	t.Helper()
	if x, is := e.Find(s); is || infoText(x) != infoText(api.Info{}) {
		t.Errorf("Find of %q: %v, %s", s, is, infoText(x))
	}
	want := api.ErrArg
	if term.Name(s) {
		want = api.ErrNone
	}
	nothingOf(t, e, con(s), want)
	nothingOf(t, e, con(s, two), want)
}

// nothingOf: is of a term that error told, and nothing else?
func nothingOf(t *testing.T, e *Env, x api.Term, want api.Errno) {
	t.Helper()
	if y, f := e.Type(x); f != want || !zeroTerm(y) {
		t.Errorf("Type: error %d, want %d, %s", f, want, text(y))
	}
	if y, f := e.Value(x); f != want || !zeroTerm(y) {
		t.Errorf("Value: error %d, want %d, %s", f, want, text(y))
	}
	if h := e.Height(x); h != 0 {
		t.Errorf("Height: %d", h)
	}
}

// adds: does Add, and With ahead of it, tell that, and is all as the words say then?
func adds(t *testing.T, e *Env, w *words, want api.Errno, l ...api.Info) {
	t.Helper()
	was := w.clone()
	if f := w.add(l...); f != want {
		t.Fatalf("the words say %d, not %d", f, want)
	}
	o, f := e.With(l...)
	if f != want || (o == nil) != (want != api.OK) {
		t.Fatalf("With: error %d, want %d", f, want)
	}
	holds(t, e, was)
	if o != nil {
		holds(t, o, w)
	}
	if f := e.Add(l...); f != want {
		t.Fatalf("Add: error %d, want %d", f, want)
	}
	holds(t, e, w)
}

// filled: an environment with these infos, and what the words say of it.
func filled(t *testing.T, l ...api.Info) (*Env, *words) {
	t.Helper()
	e, w := New(), &words{}
	f, g := e.Add(l...), w.add(l...)
	if f != api.OK || g != api.OK {
		t.Fatalf("error %d, the words say %d", f, g)
	}
	return e, w
}

// basis: an environment that later infos may name something of.
func basis(t *testing.T) (*Env, *words) {
	t.Helper()
	n := con("N")
	return filled(t, append(sample.NumberInfos(), axiom(0, "a", n), def(0, "one", n, app(con("N.succ"), con("N.zero"))), theorem(1, "t", n, con("one")))...)
}
