package equal

import (
	"math"
	"slices"
	"testing"

	"batten/api"
	"batten/env"
	"batten/reduce"
	"batten/sample"
	"batten/term"
)

// P13.2, P13.3, what may not be handed in, and what holds of all calls.

// ErrArg, whichever of the two it is, goes ahead of what the fuel says, and ErrNil of all.
func TestWhatMayNotBe(t *testing.T) {
	e := basis(t)
	endless := sample.Self(app(vr(0), vr(0)))
	for _, x := range sample.BadWithin() {
		for _, y := range []api.Term{a, con("one"), endless, x} {
			for _, fuel := range []int{0, 1, 100, -1} {
				fails(t, "the first may not be", e, x, y, fuel, api.ErrArg)
				fails(t, "the second may not be", e, y, x, fuel, api.ErrArg)
				fails(t, "the first may not be, of no environment", nil, x, y, fuel, api.ErrNil)
				fails(t, "the second may not be, of no environment", nil, y, x, fuel, api.ErrNil)
			}
		}
		fails(t, "with as much as may be", e, a, x, math.MaxInt, api.ErrArg)
		fails(t, "with as much as may be", e, x, lam(n, x), math.MaxInt, api.ErrArg)
	}
}

func TestFuelBelowNone(t *testing.T) {
	e := basis(t)
	l := append(sample.Leaves(), con("one"), app(lam(n, vr(0)), a), let(n, a, vr(0)), first(p), count(num(3)), paired(p))
	for _, x := range l {
		for _, y := range []api.Term{x, a, con("one")} {
			for _, fuel := range []int{-1, -2, -1000, math.MinInt + 1, math.MinInt} {
				fails(t, "below none", e, x, y, fuel, api.ErrArg)
				fails(t, "below none, of no environment", nil, x, y, fuel, api.ErrNil)
			}
			fails(t, "of no environment", nil, x, y, 0, api.ErrNil)
			fails(t, "of no environment", nil, x, y, math.MaxInt, api.ErrNil)
		}
	}
	for _, x := range []api.Term{con("one"), app(lam(n, vr(0)), a), let(n, a, vr(0)), first(mk(a, a)), apply(recN, n, a, n, num(0)), app(f, con("one")), lam(n, lam(con("one"), vr(0))), first(app(f, con("one")))} {
		says(t, "none", e, x, x, 0, api.Unsure, 0)
	}
}

// Just enough, and one less: two steps for each that there is, be it of the first or of the second one.
func TestWhatIsTakenOfFuel(t *testing.T) {
	e := basis(t)
	for what, c := range map[string]struct {
		x, y  api.Term
		want  api.Verdict
		steps int
	}{
		"none":                      {f, lam(n, app(f, vr(0))), api.Alike, 0},
		"none, unlike":              {f, a, api.Unlike, 0},
		"of the first":              {con("one"), num(1), api.Alike, 1},
		"of the second":             {num(1), con("one"), api.Alike, 1},
		"of both":                   {con("one"), con("one"), api.Alike, 2},
		"sums":                      {add(num(1), num(1)), app(con("double"), con("one")), api.Alike, 14 + 18},
		"in arguments":              {apply(f, con("one"), id(a)), apply(f, num(1), a), api.Alike, 4},
		"below lambdas":             {lam(n, con("one")), lam(n, con("one")), api.Alike, 2},
		"in domains":                {pi(id(n), n), pi(n, n), api.Alike, 3},
		"by eta":                    {lam(n, app(f, id(vr(0)))), f, api.Alike, 3},
		"by eta, of both":           {con("double"), lam(n, app(con("double"), vr(0))), api.Alike, 1 + 3 + 5},
		"of a pair":                 {mk(first(id(p)), second(id(p))), p, api.Alike, 6},
		"of a pair and its swaps":   {swap(swap(p)), p, api.Alike, 14},
		"of such a pair, within f":  {app(f, swap(swap(p))), app(f, apply(con("id", zero), couple, p)), api.Alike, 14 + 3},
		"of a pair's types":         {apply(con("Pair.mk", zero, zero), id(n), n, a, a), mk(a, a), api.Alike, 3},
		"up to where it is unlike":  {apply(f, con("one"), a, con("one")), apply(f, con("one"), n, con("one")), api.Unlike, 2},
		"of what is unlike at once": {app(f, con("one")), app(vr(0), con("one")), api.Unlike, 0},
		"of heads that are unlike":  {con("one"), id(a), api.Unlike, 4},
	} {
		if k := holds(t, what, e, c.x, c.y, c.want); k != c.steps {
			t.Errorf("%s: %d steps, want %d", what, k, c.steps)
		}
	}
}

// What is not looked at takes nothing, has it an end or not: what is unlike is so by the first thing that is.
func TestWhatIsNotLookedAt(t *testing.T) {
	e := basis(t, sample.Loose())
	for what, dear := range sample.EndlessHeads() {
		for _, c := range [][2]api.Term{
			{app(f, dear), app(vr(0), dear)}, {app(f, dear), apply(f, dear, dear)}, {app(f, dear), srt(zero)}, {pi(n, dear), lam(n, n)}, {pi(n, dear), pi(a, dear)},
			{apply(f, a, dear), apply(f, n, dear)}, {mk(a, dear), mk(num(0), dear)}, {mk(a, dear), mk(num(1), a)}, {row(a, dear), row(f, dear)}, {row(dear), row()},
			{lam(n, apply(f, a, dear)), lam(n, apply(f, vr(0), dear))}, {first(app(f, dear)), second(app(f, dear))}, {count(app(f, dear)), row(dear)},
			{succ(succ(dear)), num(1)}, {lam(n, apply(f, a, dear)), app(f, num(0))}, {apply(recN, n, a, dear, vr(0)), apply(recN, n, vr(0), dear, vr(0))},
		} {
			for _, fuel := range []int{0, 100, math.MaxInt} {
				says(t, what, e, c[0], c[1], fuel, api.Unlike, fuel)
				says(t, what, e, c[1], c[0], fuel, api.Unlike, fuel)
			}
		}
		same(t, what+", dropped by a lambda", e, app(lam(n, a), dear), a)
		same(t, what+", dropped by a field", e, first(mk(a, dear)), let(dear, dear, a))
	}
}

// Without infos names stand for nothing; lambdas and lets have their steps, and lambdas are contracted.
func TestAnEmptyEnvironment(t *testing.T) {
	for _, e := range []*env.Env{{}, env.New()} {
		for _, x := range []api.Term{con("one"), add(a, a), first(mk(a, a)), paired(p), num(3), srt(zero), vr(0)} {
			same(t, "of an empty one", e, x, app(lam(n, lifted(x)), a))
			same(t, "of an empty one", e, x, let(n, a, lifted(x)))
			same(t, "of an empty one", e, x, lam(n, app(lifted(x), vr(0))))
			other(t, "of an empty one", e, x, app(x, a))
		}
		other(t, "a definition", e, con("one"), num(1))
		other(t, "a recursor", e, count(num(1)), num(1))
		other(t, "a field", e, first(mk(a, a)), a)
		other(t, "a pair", e, paired(p), p)
	}
}

// What two are hangs on what their names stand for then, in the environment that is asked.
func TestWhatIsAddedLater(t *testing.T) {
	e := basis(t)
	x, y := lam(n, app(con("later"), vr(0))), lam(n, vr(0))
	other(t, "what is not there", e, x, y)
	same(t, "what is not there, and itself", e, x, con("later"))
	with, g := e.With(def(0, "later", unary, lam(n, vr(0))))
	if g != api.OK {
		t.Fatalf("error %d", g)
	}
	same(t, "in the other one", with, x, y)
	other(t, "in the first one", e, x, y)
	e.Add(def(0, "later", unary, f))
	other(t, "added", e, x, y)
	same(t, "added", e, x, f)
	same(t, "in the other one still", with, x, y)
}

// Nothing that is handed in is turned, the room behind lists' ends and the environment neither; asked again all is the same. (R3, R5)
func TestNothingIsTurned(t *testing.T) {
	e := basis(t)
	l := sample.Redexes()
	for i, x := range l {
		for _, y := range []api.Term{x, lam(n, app(lifted(x), vr(0))), paired(x), app(x, a), l[(i+1)%len(l)]} {
			var kept []func() bool
			wasX, wasY := text(x), text(y)
			x, y := sample.Rooms(x, &kept), sample.Rooms(y, &kept)
			v, left, f := Alike(e, x, y, 300)
			for range 3 {
				if w, rest, g := Alike(e, x, y, 300); w != v || rest != left || g != f || f != api.OK {
					t.Fatalf("%s, %s: error %d, %d, left %d, then %d, %d, %d", wasX, wasY, f, v, left, g, w, rest)
				}
				for fuel := range 20 { // where it goes out, too
					Alike(e, x, y, fuel)
				}
			}
			if text(x) != wasX || text(y) != wasY || slices.ContainsFunc(kept, func(is func() bool) bool { return !is() }) {
				t.Fatalf("turned: %s, was %s; %s, was %s", text(x), wasX, text(y), wasY)
			}
		}
	}
	first, names := basis(t), e.List()
	if !slices.Equal(names, first.List()) {
		t.Fatalf("%v", names)
	}
	for _, s := range names {
		x, _ := e.Find(s)
		if was, _ := first.Find(s); sample.InfoText(x) != sample.InfoText(was) {
			t.Errorf("%s was turned", s)
		}
	}
}

// lawful: are two of one type as normal says, and what they are by other ways, too?
func lawful(t *testing.T, e *env.Env, x, y, of api.Term) (api.Verdict, bool) {
	t.Helper()
	const most = 4000
	want, is := obeyed(t, e, x, y, most)
	if !is {
		return 0, false
	}
	w, _, _ := reduce.Head(e, y, most)
	longer := sample.Longer(x, of, lifted)
	for _, z := range []api.Term{
		y, formOf(e, y, most).n, w, app(lam(of, vr(0)), y), let(of, y, vr(0)), apply(con("id", zero), of, y), second(mk(a, y)), sample.Longer(y, of, lifted),
	} {
		for _, l := range [][2]api.Term{{x, z}, {longer, z}, {lam(n, lifted(z)), lam(n, lifted(x))}, {apply(f, a, x), apply(f, a, z)}} {
			tells(t, "by other ways", e, l[0], l[1], 1<<20, want)
		}
	}
	obeyed(t, e, longer, sample.Longer(y, of, lifted), 8*most)
	return want, true
}

// nearly: two terms of one type, the bytes of which differ in one place.
func nearly(k int) (x, y, of api.Term, are bool) {
	b := sample.Scattered(k, 300)
	x, of = sample.Ample(b)
	b = slices.Clone(b)
	b[8+k%60] += byte(1 + k%5)
	y, too := sample.Ample(b)
	return x, y, of, text(of) == text(too)
}

// Terms of types: each with others of its type, and nearly itself.
func TestTheLawsOfWhatHasAType(t *testing.T) {
	e := basis(t)
	done := map[api.Verdict]int{}
	for k := range 500 {
		x, y, of := sample.Twins(sample.Scattered(k, 400))
		if v, is := lawful(t, e, x, y, of); is {
			done[v]++
		}
		if x, y, of, are := nearly(k); are && text(x) != text(y) {
			if v, is := lawful(t, e, x, y, of); is {
				done[v]++
			}
		}
	}
	if done[api.Unlike] < 300 || done[api.Alike] < 50 {
		t.Errorf("%v only", done)
	}
}

// Where two are alike, and one of them and a third one, the other one and that are.
func TestAlikeGoesOn(t *testing.T) {
	e := basis(t)
	var l []form
	for k := range 60 {
		x, _ := sample.Ample(sample.Scattered(k, 120))
		if term.May(x) {
			l = append(l, formsOf(e, 1000, x)...)
		}
	}
	for _, x := range l[:len(l):len(l)] {
		l = append(l, formsOf(e, 0, x.n)...)
	}
	each(t, "terms of types", e, l, 101)
}

// Any terms over the sample.
func TestAnyTerms(t *testing.T) {
	e := basis(t, sample.Loose())
	done, before := 0, a
	for k := range 400 {
		x := (&sample.Reckoned{Bytes: sample.Bytes{B: sample.Scattered(k, 120)}}).Row(0)
		for _, y := range []api.Term{x, before, paired(x), lam(n, app(lifted(x), vr(0)))} {
			if _, is := obeyed(t, e, x, y, 300); is {
				done++
			}
		}
		before = x
	}
	if done < 1000 {
		t.Errorf("%d only", done)
	}
}

// FuzzAlike: any terms over the sample, held against normal. (R1)
func FuzzAlike(f *testing.F) {
	for k := range 60 {
		f.Add(sample.Scattered(k, 120), sample.Scattered(k+k%2, 120), k*3)
	}
	f.Fuzz(func(t *testing.T, b, c []byte, fuel int) {
		e := basis(t, sample.Loose())
		x := (&sample.Reckoned{Bytes: sample.Bytes{B: b}}).Row(0)
		y := (&sample.Reckoned{Bytes: sample.Bytes{B: c}}).Row(0)
		if fuel < 0 {
			fails(t, "fuel below none", e, x, y, fuel, api.ErrArg)
		}
		for _, z := range []api.Term{y, x, paired(x), lam(n, app(lifted(x), vr(0)))} {
			obeyed(t, e, x, z, 300)
			if term.May(x) && term.May(z) {
				ends(t, text(x), e, x, z, fuel&0xfff)
			}
		}
	})
}

// FuzzTyped: terms of one type, held against normal and the laws.
func FuzzTyped(f *testing.F) {
	for k := range 60 {
		f.Add(sample.Scattered(k, 300))
	}
	f.Fuzz(func(t *testing.T, b []byte) {
		x, y, of := sample.Twins(b)
		lawful(t, basis(t), x, y, of)
	})
}
