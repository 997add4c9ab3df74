package rules

import (
	"testing"

	"batten/api"
	"batten/env"
	"batten/sample"
	"batten/subst"
)

// P8.1

func TestDeltaOfTheChapter(t *testing.T) {
	a := con("A")
	e := filled(t, axiom(0, "A", srt(zero)), def(0, "D", srt(zero), a))
	got, f := Delta(e, app(con("D"), a))
	tells(t, "D, applied to A", got, f, app(a, a), api.OK)
	got, f = Delta(e, con("D"))
	tells(t, "D", got, f, a, api.OK)
}

func TestDeltaOfTheSample(t *testing.T) {
	e := basis(t)
	n, f := con("N"), con("f")
	u, v, w := sample.P(1, 2), sample.P(3, 0), sample.Number(7)
	value := func(s string, by ...api.Level) api.Term {
		x, is := e.Find(s)
		out, g := subst.Levels(x.Value, by)
		if !is || g != api.OK {
			t.Fatalf("%s: %v, error %d", s, is, g)
		}
		return out
	}
	add := lam(n, lam(n, apply(con("N.rec", zero), lam(n, n), vr(1), lam(n, lam(n, app(con("N.succ"), vr(0)))), vr(0))))
	for what, c := range map[string][2]api.Term{
		"add":                  {con("add"), add},
		"add of 1":             {app(con("add"), num(1)), app(add, num(1))},
		"add of 1 and 2":       {apply(con("add"), num(1), num(2)), apply(add, num(1), num(2))},
		"add of free ones":     {apply(con("add"), vr(3), vr(0), vr(7)), apply(add, vr(3), vr(0), vr(7))},
		"one":                  {con("one"), num(1)},
		"one, applied":         {app(con("one"), con("one")), app(num(1), con("one"))}, // what has no type, too
		"double":               {app(con("double"), con("a")), app(lam(n, apply(con("add"), vr(0), vr(0))), con("a"))},
		"id at a level":        {con("id", u), lam(srt(u), lam(vr(0), vr(0)))},
		"id of f":              {apply(con("id", zero), pi(n, n), f), apply(lam(srt(zero), lam(vr(0), vr(0))), pi(n, n), f)},
		"swap at levels":       {con("swap", u, v), value("swap", u, v)},
		"Pair.rec at levels":   {apply(con("Pair.rec", u, v, w), n, n, con("a"), f, con("p")), apply(value("Pair.rec", u, v, w), n, n, con("a"), f, con("p"))},
		"in an argument, stay": {app(con("one"), app(con("double"), num(1))), app(num(1), app(con("double"), num(1)))},
	} {
		got, f := Delta(e, c[0])
		tells(t, what, got, f, c[1], api.OK)
	}
}

func TestDeltaWithoutARule(t *testing.T) {
	n := con("N")
	e := basis(t, theorem(0, "t", n, num(1)), api.Info{Kind: api.IsType, Name: "V", Type: srt(zero), Value: n})
	for what, x := range map[string]api.Term{
		"a sort":                srt(zero),
		"a variable":            vr(0),
		"a variable, applied":   app(vr(0), con("one")),
		"a lambda":              lam(n, con("one")),
		"a lambda, applied":     app(lam(n, con("one")), con("one")),
		"functions":             pi(con("one"), con("one")),
		"a let":                 let(n, con("one"), con("one")),
		"a projection":          prj("Pair", 0, con("p")),
		"one of a definition":   prj("one", 0, con("one")),
		"that, applied":         app(prj("one", 0, con("one")), con("one")),
		"a name that is none":   con("none"),
		"a none, applied":       app(con("none"), con("one")),
		"a name that begins so": con("on"),
		"a name that goes on":   con("one."),
		"a type":                n,
		"one with a Value":      con("V"),
		"a constructor":         num(1),
		"a recursor":            apply(con("N.rec", zero), con("one"), con("one"), con("one"), num(0)),
		"an axiom":              con("a"),
		"an axiom, applied":     app(con("f"), con("one")),
		"a theorem":             con("t"),
		"a theorem, applied":    app(con("t"), con("one")),
		"one at a level":        con("one", zero),
		"one at four":           con("one", zero, zero, zero, zero),
		"id at none":            con("id"),
		"id at two":             apply(con("id", zero, zero), n, num(1)),
		"swap at one":           con("swap", two),
		"swap at three":         con("swap", two, two, two),
		"an axiom at a level":   con("a", zero),
		"a theorem at a level":  con("t", zero),
		"none at a level":       con("none", zero),
	} {
		got, f := Delta(e, x)
		tells(t, what, got, f, api.Term{}, api.ErrNone)
	}
}

func TestDeltaOfWhatMayNotBe(t *testing.T) {
	e := basis(t)
	for _, b := range sample.Bads() {
		for _, x := range []api.Term{b, app(con("one"), b), apply(con("add"), num(1), b), app(b, con("one")), app(con("none"), b)} {
			got, f := Delta(e, x)
			tells(t, "what may not be", got, f, api.Term{}, api.ErrArg)
		}
	}
	for _, x := range []api.Term{
		{K: api.Const, S: "one", N: 1}, con("id", sample.BadLevels()[2]), con("id", make([]api.Level, 5)...), app(con("one"), api.Term{}),
	} {
		got, f := Delta(e, x)
		tells(t, "what may not be", got, f, api.Term{}, api.ErrArg)
	}
}

// Values that are applied grow: what just may be, and one node more.
func TestDeltaOfWhatGrows(t *testing.T) {
	half := sample.OfSizeClosed(api.TopTerm/2 + 1)
	deep := sample.OfDepth(api.TopDepth-1, con("N"), func(x api.Term) api.Term { return prj("N", 0, x) })
	e := filled(t,
		axiom(0, "N", srt(zero)), axiom(0, "S", srt(zero)),
		def(0, "half", con("N"), half),
		def(0, "deep", con("N"), deep),
		def(0, "top", con("N"), prj("N", 0, deep)),
		def(0, "all", con("N"), sample.OfSizeClosed(api.TopTerm)),
		def(0, "small", con("N"), con("N")),
	)
	rest := api.TopTerm - (api.TopTerm/2 + 1) - 1 // nodes of one argument
	row := make([]api.Term, api.TopDepth-1)
	for i := range row {
		row[i] = vr(i)
	}
	for what, c := range map[string]struct {
		x    api.Term
		want api.Errno
	}{
		"just great enough":    {app(con("half"), sample.OfSize(rest)), api.OK},
		"one node more":        {app(con("half"), sample.OfSize(rest+1)), api.ErrMany},
		"far more":             {app(con("half"), sample.OfSize(api.TopTerm-2)), api.ErrMany},
		"in two, just":         {apply(con("half"), vr(1), sample.OfSize(rest-2)), api.OK},
		"in two, more":         {apply(con("half"), vr(1), sample.OfSize(rest-1)), api.ErrMany},
		"just deep enough":     {app(con("deep"), vr(0)), api.OK},
		"one deeper":           {apply(con("deep"), vr(0), vr(1)), api.ErrMany},
		"the deepest":          {con("top"), api.OK},
		"the deepest, applied": {app(con("top"), vr(0)), api.ErrMany},
		"the greatest":         {con("all"), api.OK},
		"the greatest, so":     {app(con("all"), vr(0)), api.ErrMany},
		"to as many as may be": {apply(con("small"), row...), api.OK},
		"and a deeper value":   {apply(con("deep"), row...), api.ErrMany},
	} {
		got, f := Delta(e, c.x)
		want, g := wordsOf(e).delta(c.x)
		if f != c.want || g != c.want || text(got) != text(want) || zeroTerm(got) != (f != api.OK) {
			t.Errorf("%s: error %d, the words say %d, want %d", what, f, g, c.want)
		}
	}
}

// Levels that are put in grow, too: the greatest one that may be, and one more.
func TestDeltaOfLevelsThatGrow(t *testing.T) {
	e := filled(t, def(1, "d", srt(zero), srt(sample.P(0, 3))), axiom(1, "a", srt(sample.P(0, 3))))
	for n, want := range map[int]api.Errno{api.TopLevel - 3: api.OK, api.TopLevel - 2: api.ErrMany, api.TopLevel: api.ErrMany} {
		for _, l := range []api.Level{sample.Number(n), sample.P(2, n)} {
			for _, x := range []api.Term{con("d", l), apply(con("d", l), vr(0), srt(zero))} {
				got, f := Delta(e, x)
				if f != want || zeroTerm(got) != (want != api.OK) {
					t.Errorf("at %d: error %d, %s", n, f, text(got))
				}
			}
			got, f := Delta(e, con("a", l))
			tells(t, "an axiom", got, f, api.Term{}, api.ErrNone)
			got, f = Delta(e, con("d", l, l))
			tells(t, "at too many", got, f, api.Term{}, api.ErrNone)
		}
	}
}

func TestDeltaOfNoEnvironment(t *testing.T) {
	for _, x := range append(sample.Bads(), con("one"), srt(zero), app(con("D"), con("A"))) {
		got, f := Delta(nil, x)
		tells(t, "of none", got, f, api.Term{}, api.ErrNil)
	}
	for _, e := range []*env.Env{{}, env.New()} {
		got, f := Delta(e, con("one"))
		tells(t, "of an empty one", got, f, api.Term{}, api.ErrNone)
		got, f = Delta(e, api.Term{})
		tells(t, "of an empty one", got, f, api.Term{}, api.ErrArg)
	}
}
