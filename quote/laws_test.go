package quote

import (
	"math"
	"slices"
	"testing"

	"batten/api"
	"batten/env"
	"batten/normal"
	"batten/reduce"
	"batten/sample"
	"batten/term"
)

// P12.2, P12.3, what may not be handed in, and what holds of all calls.

// ErrArg goes ahead of what the fuel says, and ErrNil of all.
func TestWhatMayNotBe(t *testing.T) {
	e := basis(t)
	for _, x := range sample.BadWithin() {
		for _, fuel := range []int{0, 1, 1000, math.MaxInt, -1} {
			fails(t, "what may not be", e, x, fuel, api.ErrArg)
		}
		fails(t, "what may not be, of no environment", nil, x, 10, api.ErrNil)
		fails(t, "what may not be, below none, of no environment", nil, x, -10, api.ErrNil)
	}
}

func TestFuelBelowNone(t *testing.T) {
	e := basis(t)
	for _, x := range append(sample.Leaves(), con("one"), app(lam(n, vr(0)), a), let(n, a, vr(0)), first(p), count(num(3)), both(p)) {
		for _, fuel := range []int{-1, -2, -1000, math.MinInt + 1, math.MinInt} {
			fails(t, "below none", e, x, fuel, api.ErrArg)
			fails(t, "below none, of no environment", nil, x, fuel, api.ErrNil)
		}
	}
	for _, x := range []api.Term{con("one"), app(lam(n, vr(0)), a), let(n, a, vr(0)), first(mk(a, a)), apply(recN, n, a, n, num(0)), app(f, con("one")), lam(n, lam(con("one"), vr(0))), first(app(f, con("one")))} {
		fails(t, "none", e, x, 0, api.ErrFuel)
	}
}

// Without infos names stand for nothing; lambdas and lets have their steps, and lambdas are contracted.
func TestAnEmptyEnvironment(t *testing.T) {
	for _, e := range []*env.Env{{}, env.New()} {
		for _, x := range []api.Term{con("one"), add(a, a), first(mk(a, a)), both(p), num(3), srt(zero), vr(0)} {
			stays(t, "of an empty one", e, x)
			becomes(t, "of an empty one", e, app(lam(n, lifted(x)), a), x, 1)
			becomes(t, "of an empty one", e, let(n, a, lifted(x)), x, 1)
			becomes(t, "of an empty one", e, lam(n, app(lifted(x), vr(0))), x, 0)
		}
		becomes(t, "a recursor", e, count(num(1)), apply(recN, lam(n, n), num(0), lam(n, con("N.succ")), num(1)), 0)
	}
	fails(t, "of none", nil, vr(0), 0, api.ErrNil)
}

// What a term becomes hangs on what its names stand for then, in the environment that is asked.
func TestWhatIsAddedLater(t *testing.T) {
	e := basis(t)
	x := lam(n, apply(vr(0), app(con("later"), a)))
	stays(t, "what is not there", e, x)
	other, g := e.With(def(0, "later", unary, lam(n, vr(0))))
	if g != api.OK {
		t.Fatalf("error %d", g)
	}
	becomes(t, "in the other one", other, x, lam(n, app(vr(0), a)), 2)
	stays(t, "in the first one", e, x)
	e.Add(def(0, "later", unary, f))
	becomes(t, "added", e, x, lam(n, app(vr(0), app(f, a))), 1)
	becomes(t, "in the other one still", other, x, lam(n, app(vr(0), a)), 2)
}

// One name at levels, at others, and applied to others, in one term: each is as it is by itself.
func TestOneNameTwice(t *testing.T) {
	u := sample.P(0, 1)
	e := basis(t, def(1, "sort", srt(sample.P(0, 2)), srt(u)), api.Info{Kind: api.IsRec, Name: "s", Params: 1, Type: n, Rules: []api.Rule{
		sample.Rule("N.zero", 0, lam(n, srt(u))), sample.Rule("N.succ", 1, lam(n, lam(n, con("sort", u)))),
	}})
	at := func(k int) api.Term { return con("sort", sample.Number(k)) }
	rec := func(k int, m api.Term) api.Term { return apply(con("s", sample.Number(k)), m, a) }
	srts := func(l ...int) (all []api.Term) {
		for _, k := range l {
			all = append(all, srt(sample.Number(k)))
		}
		return all
	}
	becomes(t, "definitions", e, apply(f, at(0), at(3), at(0), con("sort"), at(3)), apply(f, append(srts(1, 4, 1), con("sort"), srts(4)[0])...), 4)
	becomes(t, "rules", e, apply(f, rec(0, num(0)), rec(5, num(0)), rec(5, num(2)), rec(0, num(1))), apply(f, srts(1, 6, 7, 2)...), 2*2+2*4)
	becomes(t, "of too few, and enough", e, apply(f, con("s", two), app(con("s", two), num(0)), app(con("s", two), a)), apply(f, con("s", two), lam(n, srt(sample.Number(3))), app(con("s", two), a)), 1)
	becomes(t, "fields", e, apply(f, first(mk(a, f)), second(mk(a, f)), first(p), prj("Pair", 2, mk(a, f))), apply(f, a, f, first(p), prj("Pair", 2, mk(a, f))), 2)
	for _, fuel := range []int{1, 1000, math.MaxInt} {
		fails(t, "a level that is too great", e, lam(n, con("sort", sample.Number(api.TopLevel))), fuel, api.ErrFuel)
	}
}

// Nothing that is handed in is turned, the room behind lists' ends and the environment neither; asked again all is the same. (R3, R5)
func TestNothingIsTurned(t *testing.T) {
	e := basis(t)
	for _, x := range sample.Redexes() {
		var kept []func() bool
		was := text(x)
		x := sample.Rooms(x, &kept)
		var before string
		for i := range 3 {
			got, left, f := Form(e, x, 200)
			now := text(app(got, api.Term{K: uint8(f), N: left}))
			if i > 0 && now != before || f != api.OK {
				t.Fatalf("%s: error %d, %s, then %s", was, f, before, now)
			}
			before = now
			for fuel := range 20 { // where it goes out, too
				Form(e, x, fuel)
			}
		}
		if text(x) != was || slices.ContainsFunc(kept, func(is func() bool) bool { return !is() }) {
			t.Fatalf("turned: %s, was %s", text(x), was)
		}
	}
	first, l := basis(t), e.List()
	if !slices.Equal(l, first.List()) {
		t.Fatalf("%v", l)
	}
	for _, s := range l {
		x, _ := e.Find(s)
		if was, _ := first.Find(s); sample.InfoText(x) != sample.InfoText(was) {
			t.Errorf("%s was turned", s)
		}
	}
}

// lawful: of a term that has a type, is its form its own, in normal, too, and that of what the term is by other ways?
func lawful(t *testing.T, e *env.Env, x, of api.Term) bool {
	t.Helper()
	const most = 4000
	if !term.May(x) {
		return false
	}
	want, left, g := normal.Form(e, x, most)
	if g != api.OK {
		return false
	}
	steps := most - left
	runs(t, text(x), e, x, want, steps)
	runs(t, "its own", e, want, want, 0)
	if n, _, g := normal.Form(e, want, 0); g != api.OK || !term.Same(n, want) {
		t.Fatalf("in normal: error %d, %s, want %s", g, text(n), text(want))
	}
	w, rest, _ := reduce.Head(e, x, most)
	tells(t, "its weak head", e, w, rest-left, want, 0)
	tells(t, "by a lambda", e, app(lam(of, vr(0)), x), steps+1, want, 0)
	tells(t, "by a let", e, let(of, x, vr(0)), steps+1, want, 0)
	tells(t, "by a definition", e, apply(con("id", zero), of, x), steps+3, want, 0)
	tells(t, "by a field", e, second(mk(a, x)), steps+1, want, 0)
	longer := sample.Longer(x, of, lifted)
	if _, left, g := normal.Form(e, longer, 8*most); g == api.OK {
		tells(t, "by what it does, or has", e, longer, 8*most, want, left)
	}
	return true
}

// Terms of types: with what is enough there is the form, with more the same one, and as much more is left.
func TestTheLawsOfWhatHasAType(t *testing.T) {
	e := basis(t)
	done := 0
	for k := range 1000 {
		x, of := sample.Ample(sample.Scattered(k, 300))
		if lawful(t, e, x, of) {
			done++
		}
	}
	if done < 700 {
		t.Errorf("%d only", done)
	}
}

// Any terms over the sample.
func TestAnyTerms(t *testing.T) {
	e := basis(t, sample.Loose())
	done := 0
	for k := range 1500 {
		x := (&sample.Reckoned{Bytes: sample.Bytes{B: sample.Scattered(k, 120)}}).Row(0)
		if _, _, is := obeyed(t, e, x, 300); is {
			done++
		}
	}
	if done < 1000 {
		t.Errorf("%d only", done)
	}
}

// FuzzForm: any terms over the sample, held against normal. (R1)
func FuzzForm(f *testing.F) {
	for k := range 60 {
		f.Add(sample.Scattered(k, 120), k*3)
	}
	f.Fuzz(func(t *testing.T, b []byte, fuel int) {
		e := basis(t, sample.Loose())
		x := (&sample.Reckoned{Bytes: sample.Bytes{B: b}}).Row(0)
		if fuel < 0 {
			fails(t, "fuel below none", e, x, fuel, api.ErrArg)
		}
		obeyed(t, e, x, 300)
		if term.May(x) {
			ends(t, text(x), e, x, fuel&0xfff)
		}
	})
}

// FuzzTyped: terms of types, held against normal and the laws.
func FuzzTyped(f *testing.F) {
	for k := range 60 {
		f.Add(sample.Scattered(k, 200))
	}
	f.Fuzz(func(t *testing.T, b []byte) {
		e := basis(t)
		x, of := sample.Ample(b)
		lawful(t, e, x, of)
	})
}
