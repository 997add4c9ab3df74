package normal

import (
	"math"
	"slices"
	"testing"

	"batten/api"
	"batten/env"
	"batten/reduce"
	"batten/sample"
	"batten/term"
)

// P10.3, what may not be handed in, and what holds of all calls.

func TestWhatMayNotBe(t *testing.T) {
	e := basis(t)
	for _, x := range sample.BadWithin() {
		for _, fuel := range []int{0, 1, 1000, math.MaxInt, -1} {
			tells(t, "what may not be", e, x, fuel, api.Term{}, 0, api.ErrArg)
		}
		tells(t, "what may not be, of no environment", nil, x, 10, api.Term{}, 0, api.ErrNil)
		tells(t, "what may not be, below none, of no environment", nil, x, -10, api.Term{}, 0, api.ErrNil)
	}
}

func TestFuelBelowNone(t *testing.T) {
	e := basis(t)
	for _, x := range append(sample.Leaves(), con("one"), sample.Redexes()[0], both(p), count(num(3))) {
		for _, fuel := range []int{-1, -2, -1000, math.MinInt + 1, math.MinInt} {
			tells(t, "below none", e, x, fuel, api.Term{}, 0, api.ErrArg)
			tells(t, "below none, of no environment", nil, x, fuel, api.Term{}, 0, api.ErrNil)
		}
	}
}

// Without infos names stand for nothing; lambdas and lets have their steps, and lambdas are contracted.
func TestAnEmptyEnvironment(t *testing.T) {
	for _, e := range []*env.Env{{}, env.New()} {
		for _, x := range []api.Term{con("one"), add(a, a), first(mk(a, a)), both(p), num(3), srt(zero), vr(0)} {
			stays(t, "of an empty one", e, x)
			becomes(t, "of an empty one", e, app(lam(n, lifted(x)), a), x, 1)
			becomes(t, "of an empty one", e, lam(n, app(lifted(x), vr(0))), x, 0)
		}
		becomes(t, "a recursor", e, count(num(1)), apply(recN, lam(n, n), num(0), lam(n, con("N.succ")), num(1)), 0)
	}
	tells(t, "of none", nil, vr(0), 0, api.Term{}, 0, api.ErrNil)
}

// What a term becomes hangs on what its names stand for then, in the environment that is asked.
func TestWhatIsAddedLater(t *testing.T) {
	e := basis(t)
	x := app(f, app(con("later"), a))
	stays(t, "what is not there", e, x)
	other, g := e.With(def(0, "later", unary, lam(n, vr(0))))
	if g != api.OK {
		t.Fatalf("error %d", g)
	}
	becomes(t, "in the other one", other, x, app(f, a), 2)
	stays(t, "in the first one", e, x)
	e.Add(def(0, "later", unary, f))
	becomes(t, "added", e, x, app(f, app(f, a)), 1)
	becomes(t, "in the other one still", other, x, app(f, a), 2)
}

// Nothing that is handed in is turned, the room behind lists' ends and the environment neither; asked again all is the same. (R3, R5)
func TestNothingIsTurned(t *testing.T) {
	e := basis(t)
	for _, x := range sample.Redexes() {
		var kept []func() bool
		was := text(x)
		x := sample.Rooms(x, &kept)
		var before string
		for i := range 3 {
			w, left, f := Form(e, x, 200)
			v, g := Alike(e, x, w, 200)
			now := text(api.Term{K: uint8(f), N: left, T: []api.Term{w, {K: uint8(g), N: int(v)}}})
			if i > 0 && now != before || f != api.OK {
				t.Fatalf("%s: error %d, %s, then %s", was, f, before, now)
			}
			before = now
			for fuel := range 20 { // where it goes out, too
				Form(e, x, fuel)
				Alike(e, x, x, fuel)
			}
		}
		if text(x) != was || slices.ContainsFunc(kept, func(is func() bool) bool { return !is() }) {
			t.Fatalf("turned: %s, was %s", text(x), was)
		}
	}
	first, l := basis(t), e.List()
	if !slices.Equal(l, first.List()) {
		t.Fatalf("%v", l)
	}
	for _, s := range l {
		x, _ := e.Find(s)
		if was, _ := first.Find(s); sample.InfoText(x) != sample.InfoText(was) {
			t.Errorf("%s was turned", s)
		}
	}
}

// Small terms of all kinds.
func TestTheWordsOfSmallTerms(t *testing.T) {
	e := filled(t, sample.SmallInfos()...)
	for _, x := range sample.Some(3) {
		for _, y := range []api.Term{x, app(con("B", two), app(con("A"), x)), app(con("B.b'"), prj("P", 0, x)), lam(n, app(lifted(x), vr(0)))} {
			obeyed(t, e, y, 25)
		}
	}
}

// lawful: of a term that has a type, is its form its own, and that of all that it is by other ways?
func lawful(t *testing.T, e *env.Env, x, of api.Term) {
	t.Helper()
	const most = 4000
	if !term.May(x) {
		return
	}
	want, left, g := Form(e, x, most)
	if g != api.OK {
		return
	}
	steps := most - left
	tells(t, "its own", e, want, 0, want, 0, api.OK)
	w, rest, _ := reduce.Head(e, x, most)
	tells(t, "its weak head", e, w, rest-left, want, 0, api.OK)
	tells(t, "by a lambda", e, app(lam(of, vr(0)), x), steps+1, want, 0, api.OK)
	tells(t, "by a lambda more", e, apply(lam(n, lam(of, vr(0))), a, x), steps+2, want, 0, api.OK)
	tells(t, "by a let", e, let(of, x, vr(0)), steps+1, want, 0, api.OK)
	tells(t, "by a definition", e, apply(con("id", zero), of, x), steps+3, want, 0, api.OK)
	tells(t, "by a field", e, first(mk(x, a)), steps+1, want, 0, api.OK)
	tells(t, "by a recursor", e, apply(recN, lam(n, of), x, lam(n, lam(of, vr(0))), num(0)), steps+4, want, 0, api.OK)
	alike := []api.Term{x, want, w}
	switch {
	case of.K == api.Pi:
		alike = append(alike, lam(of.T[0], app(lifted(x), vr(0))), lam(of.T[0], app(app(lam(of, lam(of.T[0], app(vr(1), vr(0)))), lifted(x)), vr(0))))
	case of.K == api.App && of.T[0].K == api.App:
		alike = append(alike, apply(con("Pair.mk", zero, zero), of.T[0].T[1], of.T[1], first(x), second(x)), swapped(of, x))
	}
	for i, y := range alike {
		says(t, "what is the same", e, x, y, 8*most, api.Alike)
		says(t, "what is the same, and another", e, alike[len(alike)-1-i], y, 8*most, api.Alike)
	}
}

// swapped: a pair, swapped twice.
func swapped(of, x api.Term) api.Term {
	u, v := of.T[0].T[1], of.T[1]
	return apply(con("swap", zero, zero), v, u, apply(con("swap", zero, zero), u, v, x))
}

// A normal form is its own; a term, its weak head, and what it is by a lambda more have the same one.
func TestTheLawsOfWhatHasAType(t *testing.T) {
	e := basis(t)
	for k := range 800 {
		x, of := sample.Ample(sample.Scattered(k, 300))
		lawful(t, e, x, of)
	}
}

// Alike goes on and back: of terms of one type, two that are alike are so of the same ones.
func TestAlikeGoesOnAndBack(t *testing.T) {
	e := basis(t)
	var l []api.Term
	for k := range 60 {
		g := &sample.Typed{Bytes: sample.Bytes{B: sample.Scattered(k, 200)}}
		of := []api.Term{n, unary, couple}[k%3]
		x := g.Term(of, []api.Term{n, unary, couple}, 2)
		if term.Size(x) < 400 {
			l = append(l, x)
		}
	}
	l = append(l, f, lam(n, app(f, vr(0))), p, both(p), a, id(a), con("one"), num(1), vr(0), both(vr(0)))
	with := make([][]bool, len(l))
	for i, x := range l {
		for _, y := range l {
			v, g := Alike(e, x, y, 1<<20)
			if g != api.OK || v == api.Unsure {
				t.Fatalf("%d, error %d", v, g)
			}
			with[i] = append(with[i], v == api.Alike)
		}
	}
	for i := range l {
		for j := range l {
			if with[i][j] != with[j][i] || with[i][j] != slices.Equal(with[i], with[j]) || !with[i][i] {
				t.Errorf("%s, %s", text(l[i]), text(l[j]))
			}
		}
	}
}

// FuzzForm: any terms over the sample, held against the words. (R1)
func FuzzForm(f *testing.F) {
	for k := range 60 {
		f.Add(sample.Scattered(k, 120), k*3)
	}
	f.Fuzz(func(t *testing.T, b []byte, fuel int) {
		e := basis(t, sample.Loose()) // with which there are terms without an end
		x := (&sample.Reckoned{Bytes: sample.Bytes{B: b}}).Row(0)
		if fuel < 0 {
			tells(t, "fuel below none", e, x, fuel, api.Term{}, 0, api.ErrArg)
		}
		obeyed(t, e, x, 300)
		obeyed(t, e, x, fuel&0x3ff)
	})
}

// FuzzTyped: terms of types, held against the words and the laws.
func FuzzTyped(f *testing.F) {
	for k := range 60 {
		f.Add(sample.Scattered(k, 200))
	}
	f.Fuzz(func(t *testing.T, b []byte) {
		e := basis(t)
		x, of := sample.Ample(b)
		obeyed(t, e, x, 1000)
		lawful(t, e, x, of)
	})
}
