package values

import (
	"math"
	"slices"
	"testing"

	"batten/api"
	"batten/env"
	"batten/sample"
	"batten/term"
)

// P11.3, what may not be handed in, and what holds of all calls.

func TestWhatMayNotBe(t *testing.T) {
	e := basis(t)
	for _, x := range sample.BadWithin() {
		for _, fuel := range []int{0, 1, 1000, math.MaxInt, -1} {
			fails(t, "what may not be", e, x, fuel, api.ErrArg)
		}
		fails(t, "what may not be, of no environment", nil, x, 10, api.ErrNil)
		fails(t, "what may not be, below none, of no environment", nil, x, -10, api.ErrNil)
	}
}

func TestFuelBelowNone(t *testing.T) {
	e := basis(t)
	for _, x := range append(sample.Leaves(), con("one"), app(lam(n, vr(0)), a), let(n, a, vr(0)), first(p), count(num(3))) {
		for _, fuel := range []int{-1, -2, -1000, math.MinInt + 1, math.MinInt} {
			fails(t, "below none", e, x, fuel, api.ErrArg)
			fails(t, "below none, of no environment", nil, x, fuel, api.ErrNil)
		}
	}
	for _, x := range []api.Term{con("one"), app(lam(n, vr(0)), a), let(n, a, vr(0)), first(mk(a, a)), apply(recN, n, a, n, num(0))} {
		fails(t, "none", e, x, 0, api.ErrFuel)
	}
}

// Of no value nothing is told, and nothing made; that goes ahead of all else that is wrong.
func TestNoValue(t *testing.T) {
	e := basis(t)
	v := of(t, e, lam(n, con("one")))
	for _, no := range []*Value{nil, {}} {
		if tells(no) != (is{}) {
			t.Errorf("%v", tells(no))
		}
		for _, fuel := range []int{0, 1, 1000, -1, math.MaxInt, math.MinInt} {
			for _, l := range [][2]*Value{{no, v}, {v, no}, {no, no}, {no, nil}, {nil, no}} {
				r, left, f := l[0].Apply(l[1], fuel)
				none(t, "of no value", r, left, f, api.ErrNil)
			}
		}
	}
	for _, fuel := range []int{-1, math.MinInt} {
		r, left, f := v.Apply(v, fuel)
		none(t, "below none", r, left, f, api.ErrArg)
	}
	r, left, f := v.Apply(v, 1)
	none(t, "too few", r, left, f, api.ErrFuel)
	r, left, f = v.Apply(v, 2)
	some(t, "enough", r, left, f, is{api.Const, "N.succ", 1}, 0)
}

// Without infos names stand for nothing; lambdas and lets have their steps.
func TestAnEmptyEnvironment(t *testing.T) {
	for _, e := range []*env.Env{{}, env.New()} {
		for _, x := range []api.Term{con("one"), app(con("add"), a), count(num(2)), first(mk(a, a)), num(3), srt(zero), vr(0)} {
			stays(t, "of an empty one", e, x)
			becomes(t, "of an empty one", e, app(lam(n, lifted(x)), a), x, 1)
			becomes(t, "of an empty one", e, let(n, a, lifted(x)), x, 1)
			applied(t, "of an empty one", of(t, e, lam(n, lifted(x))), of(t, e, a), headOf(x), 1)
		}
	}
	fails(t, "of none", nil, vr(0), 0, api.ErrNil)
}

// What a term becomes hangs on what its names stand for then, in the environment that is asked.
func TestWhatIsAddedLater(t *testing.T) {
	e := basis(t)
	x := app(con("later"), a)
	stays(t, "what is not there", e, x)
	v := of(t, e, x)
	other, g := e.With(def(0, "later", unary, lam(n, vr(0))))
	if g != api.OK {
		t.Fatalf("error %d", g)
	}
	becomes(t, "in the other one", other, x, a, 2)
	stays(t, "in the first one", e, x)
	e.Add(def(0, "later", unary, f))
	becomes(t, "added", e, x, app(f, a), 1)
	becomes(t, "in the other one still", other, x, a, 2)
	if tells(v) != (is{api.Const, "later", 1}) {
		t.Errorf("what was told ahead: %v", tells(v))
	}
	applied(t, "what was told ahead", v, v, is{api.Const, "later", 2}, 0)
}

// whole: all that can be told of a value, as text.
func whole(v *Value) string {
	r := readerOf(300)
	x := r.read(v, 0)
	return string(rune('0'+v.Kind())) + v.Name() + text(vr(v.Args())) + text(x)
}

// Nothing that is handed in is turned, the room behind lists' ends and the environment neither; asked again all is the same. (R3, R5)
func TestNothingIsTurned(t *testing.T) {
	e := basis(t)
	for _, x := range sample.Redexes() {
		var kept []func() bool
		was := text(x)
		x := sample.Rooms(x, &kept)
		var before string
		for i := range 3 {
			v, left, f := Of(e, x, 200)
			r, rest, g := v.Apply(v, 200)
			now := text(api.Term{K: uint8(f), N: left, S: whole(v), T: []api.Term{{K: uint8(g), N: rest}}})
			if r != nil {
				now += whole(r)
			}
			if i > 0 && now != before || f != api.OK {
				t.Fatalf("%s: error %d, %s, then %s", was, f, before, now)
			}
			before = now
			for fuel := range 20 { // where it goes out, too
				Of(e, x, fuel)
				v.Apply(v, fuel)
			}
		}
		if text(x) != was || slices.ContainsFunc(kept, func(is func() bool) bool { return !is() }) {
			t.Fatalf("turned: %s, was %s", text(x), was)
		}
	}
	first, l := basis(t), e.List()
	if !slices.Equal(l, first.List()) {
		t.Fatalf("%v", l)
	}
	for _, s := range l {
		x, _ := e.Find(s)
		if was, _ := first.Find(s); sample.InfoText(x) != sample.InfoText(was) {
			t.Errorf("%s was turned", s)
		}
	}
}

// A value stays as it was, whatever is asked of it or made of it; and what is made of it takes as much each time, whatever was made of others that have parts of it.
func TestAValueStays(t *testing.T) {
	e := basis(t)
	var l []*Value
	for _, x := range sample.Redexes() {
		l = append(l, of(t, e, x))
	}
	all := func() (s []string) {
		for _, v := range l {
			s = append(s, whole(v))
			for _, u := range l {
				for _, fuel := range []int{0, 3, 150} {
					r, left, f := v.Apply(u, fuel)
					s = append(s, text(api.Term{K: uint8(f), N: left}))
					if f == api.OK {
						s = append(s, whole(r))
					}
				}
			}
		}
		return s
	}
	was := all()
	for _, v := range slices.Backward(l) {
		for _, u := range slices.Backward(l) {
			if r, _, f := u.Apply(v, 1000); f == api.OK {
				whole(r)
				if s, _, f := r.Apply(u, 1000); f == api.OK {
					whole(s)
					v.Apply(s, 1000)
				}
			}
		}
	}
	for i, now := range all() {
		if now != was[i] {
			t.Fatalf("%s, was %s", now, was[i])
		}
	}
}

// Lists of what waits share their ends: two that are made of one say nothing to each other.
func TestTwoOfOneValue(t *testing.T) {
	e := basis(t)
	v := of(t, e, apply(vr(0), a, f))
	first, _, _ := v.Apply(of(t, e, num(0)), 0)
	second, _, _ := v.Apply(of(t, e, p), 0)
	third, _, _ := first.Apply(second, 0)
	stands(t, "the one", e, first, apply(vr(0), a, f, num(0)))
	stands(t, "the other", e, second, apply(vr(0), a, f, p))
	stands(t, "of both", e, third, apply(vr(0), a, f, num(0), apply(vr(0), a, f, p)))
	stands(t, "what they are made of", e, v, apply(vr(0), a, f))
}

// Of terms of types: with what is enough there is a value, with more the same one, and as much more is left. (P11.3)
func TestTermsOfTypes(t *testing.T) {
	e := basis(t)
	done := 0
	for k := range 1500 {
		x, _ := sample.Ample(sample.Scattered(k, 300))
		if _, _, is := obeyed(t, e, x, 3000); is {
			done++
		}
	}
	if done < 1000 {
		t.Errorf("%d only", done)
	}
}

// Of any terms over the sample.
func TestAnyTerms(t *testing.T) {
	e := loose(t)
	for k := range 3000 {
		x := (&sample.Reckoned{Bytes: sample.Bytes{B: sample.Scattered(k, 120)}}).Row(0)
		obeyed(t, e, x, 300)
	}
}

// FuzzOf: any terms over the sample, held against reduce. (R1)
func FuzzOf(f *testing.F) {
	for k := range 60 {
		f.Add(sample.Scattered(k, 120), k*3)
	}
	f.Fuzz(func(t *testing.T, b []byte, fuel int) {
		e := loose(t)
		x := (&sample.Reckoned{Bytes: sample.Bytes{B: b}}).Row(0)
		if fuel < 0 {
			fails(t, "fuel below none", e, x, fuel, api.ErrArg)
		}
		obeyed(t, e, x, 300)
		if term.May(x) {
			ends(t, text(x), e, x, fuel&0xfff)
		}
	})
}

// FuzzTyped: terms of types, and such applied, held against reduce.
func FuzzTyped(f *testing.F) {
	for k := range 60 {
		f.Add(sample.Scattered(k, 200))
	}
	f.Fuzz(func(t *testing.T, b []byte) {
		e := basis(t)
		x, _ := sample.Ample(b)
		obeyed(t, e, x, 1000)
		g := &sample.Typed{Bytes: sample.Bytes{B: b}}
		from, to := g.Type(1), g.Type(1)
		y, z := g.Term(pi(from, to), sample.Context(), 3), g.Term(from, sample.Context(), 3)
		if term.May(y) && term.May(z) {
			applies(t, e, y, z, 1000)
		}
	})
}
