package reduce

import (
	"math"
	"slices"
	"testing"

	"batten/api"
	"batten/env"
	"batten/sample"
	"batten/term"
)

// P9.2, what may not be handed in, and what holds of all calls.

func TestWhatMayNotBe(t *testing.T) {
	e := basis(t)
	for _, x := range sample.BadWithin() {
		for _, fuel := range []int{0, 1, 1000, math.MaxInt, -1} {
			tells(t, "what may not be", e, x, fuel, api.Term{}, 0, api.ErrArg)
		}
		tells(t, "what may not be, of no environment", nil, x, 10, api.Term{}, 0, api.ErrNil)
		tells(t, "what may not be, below none, of no environment", nil, x, -10, api.Term{}, 0, api.ErrNil)
	}
}

func TestFuelBelowNone(t *testing.T) {
	e := basis(t)
	for _, x := range append(sample.Leaves(), con("one"), app(lam(n, vr(0)), a), let(n, a, vr(0)), prj("Pair", 0, p), count(num(3))) {
		for _, fuel := range []int{-1, -2, -1000, math.MinInt + 1, math.MinInt} {
			tells(t, "below none", e, x, fuel, api.Term{}, 0, api.ErrArg)
			tells(t, "below none, of no environment", nil, x, fuel, api.Term{}, 0, api.ErrNil)
		}
	}
}

// Without infos names stand for nothing; lambdas and lets have their steps.
func TestAnEmptyEnvironment(t *testing.T) {
	for _, e := range []*env.Env{{}, env.New()} {
		for _, x := range []api.Term{con("one"), app(con("add"), a), count(num(2)), prj("Pair", 0, mk(a, a)), num(3), srt(zero), vr(0)} {
			stays(t, "of an empty one", e, x)
			becomes(t, "of an empty one", e, app(lam(n, lifted(x)), a), x, 1)
			becomes(t, "of an empty one", e, let(n, a, lifted(x)), x, 1)
		}
	}
	tells(t, "of none", nil, vr(0), 0, api.Term{}, 0, api.ErrNil)
}

// What a term becomes hangs on what its names stand for then, in the environment that is asked.
func TestWhatIsAddedLater(t *testing.T) {
	e := basis(t)
	x := app(con("later"), a)
	stays(t, "what is not there", e, x)
	other, g := e.With(def(0, "later", unary, lam(n, vr(0))))
	if g != api.OK {
		t.Fatalf("error %d", g)
	}
	becomes(t, "in the other one", other, x, a, 2)
	stays(t, "in the first one", e, x)
	e.Add(def(0, "later", unary, f))
	becomes(t, "added", e, x, app(f, a), 1)
	becomes(t, "in the other one still", other, x, a, 2)
}

// Nothing that is handed in is turned, the room behind lists' ends and the environment neither; asked again all is the same. (R3, R5)
func TestNothingIsTurned(t *testing.T) {
	e := basis(t)
	inner := apply(con("id", zero), n, a)
	for _, x := range []api.Term{
		apply(con("add"), num(2), apply(con("add"), num(1), con("one"))), count(inner), app(count(num(1)), inner), apply(count(inner), a, a),
		prj("Pair", 0, apply(con("id", zero), n, p)), apply(prj("Pair", 1, apply(con("swap", zero, zero), n, n, p)), inner), prj("Pair", 5, inner),
		apply(lam(n, lam(n, vr(1))), vr(3), inner), let(n, inner, app(f, vr(0))), app(let(n, vr(4), lam(n, vr(1))), a),
		apply(con("Pair.rec", zero, two, zero), n, n, n, f, apply(con("swap", two, zero), n, n, p)), con("id", sample.P(1, 1)), app(lam(n, n), con("id", two)),
	} {
		var kept []func() bool
		was := text(x)
		x := sample.Rooms(x, &kept)
		var before string
		for i := range 3 {
			w, left, f := Head(e, x, 100)
			now := text(api.Term{K: uint8(f), N: left, T: []api.Term{w}})
			if i > 0 && now != before {
				t.Fatalf("%s: %s, then %s", was, before, now)
			}
			before = now
			for fuel := range 12 { // where it goes out, too
				Head(e, x, fuel)
			}
		}
		if text(x) != was || slices.ContainsFunc(kept, func(is func() bool) bool { return !is() }) {
			t.Fatalf("turned: %s, was %s", text(x), was)
		}
	}
	first, l := basis(t), e.List()
	if !slices.Equal(l, first.List()) {
		t.Fatalf("%v", l)
	}
	for _, s := range l {
		x, _ := e.Find(s)
		if was, _ := first.Find(s); sample.InfoText(x) != sample.InfoText(was) {
			t.Errorf("%s was turned", s)
		}
	}
}

// Small terms of all kinds, of names that stand for something of each kind.
func TestTheWordsOfSmallTerms(t *testing.T) {
	e := filled(t, sample.SmallInfos()...)
	for _, x := range sample.Some(3) {
		obeyed(t, e, x, 25)
		obeyed(t, e, app(con("B", two), app(con("A"), x)), 25)
		obeyed(t, e, prj("P", 0, x), 25)
	}
}

// A weak head is its own, wherever it comes to stand: of what becomes the same, within the same, the same comes, with as much more as it takes.
func TestWeakHeadsWithinTheSame(t *testing.T) {
	e := basis(t)
	terms := []api.Term{
		a, f, p, num(0), num(2), con("one"), apply(con("add"), num(1), num(1)), app(con("double"), a), mk(con("one"), a), prj("Pair", 0, p),
		apply(con("swap", zero, zero), n, n, mk(a, num(1))), prj("Pair", 0, mk(num(1), a)), apply(con("id", zero), n, p), lam(n, con("one")), let(n, num(1), vr(0)),
	}
	around := []func(x api.Term) api.Term{
		func(x api.Term) api.Term { return count(x) },
		func(x api.Term) api.Term { return app(count(x), con("one")) },
		func(x api.Term) api.Term { return prj("Pair", 0, x) },
		func(x api.Term) api.Term { return apply(prj("Pair", 1, x), a, a) },
		func(x api.Term) api.Term { return count(prj("Pair", 1, count(x))) },
		func(x api.Term) api.Term { return app(x, con("one")) },
	}
	for _, x := range terms {
		w, left, g := Head(e, x, 100)
		if g != api.OK {
			t.Fatalf("error %d", g)
		}
		for i, in := range around {
			want, rest, g := Head(e, in(w), 1000)
			got, less, h := Head(e, in(x), 1000)
			if g != api.OK || h != api.OK || !term.Same(got, want) || rest-less != 100-left {
				t.Errorf("%d of %s: error %d, %d, left %d, of its weak head %d, which took %d: %s, %s", i, text(x), g, h, less, rest, 100-left, text(got), text(want))
			}
		}
	}
}

// FuzzHead: any terms over the sample, held against the words. (R1)
func FuzzHead(f *testing.F) {
	for k := range byte(60) {
		b := make([]byte, 120)
		for i := range b {
			b[i] = byte(i*i)*k + byte(i/3)*7 + k
		}
		f.Add(b, int(k)*3)
	}
	f.Fuzz(func(t *testing.T, b []byte, fuel int) {
		e := basis(t, sample.Loose()) // with which there are terms without an end
		x := (&sample.Reckoned{Bytes: sample.Bytes{B: b}}).Row(0)
		if fuel < 0 {
			tells(t, "fuel below none", e, x, fuel, api.Term{}, 0, api.ErrArg)
		}
		obeyed(t, e, x, 300)
		if term.May(x) {
			held(t, e, x, fuel&0xfff)
		}
	})
}
