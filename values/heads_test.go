package values

import (
	"testing"

	"batten/api"
	"batten/env"
	"batten/sample"
)

// P11.1: the kinds of heads, and what comes ahead of them.

// heads: weak heads of each kind, and what their values tell.
func heads() map[string]struct {
	x    api.Term
	want is
} {
	redex := app(lam(n, vr(0)), con("one")) // what stands within is not asked for
	return map[string]struct {
		x    api.Term
		want is
	}{
		"a sort":                       {srt(two), is{api.Sort, "", 0}},
		"a sort of parameters":         {srt(sample.Great), is{api.Sort, "", 0}},
		"a sort, applied":              {app(srt(zero), redex), is{api.Sort, "", 1}},
		"a variable":                   {vr(0), is{api.Var, "", 0}},
		"a variable, applied":          {apply(vr(3), redex, redex), is{api.Var, "", 2}},
		"a lambda":                     {lam(n, n), is{api.Lam, "", 0}},
		"a lambda of a lambda":         {lam(redex, lam(redex, redex)), is{api.Lam, "", 0}},
		"functions":                    {pi(n, n), is{api.Pi, "", 0}},
		"functions, of redexes":        {pi(redex, redex), is{api.Pi, "", 0}},
		"functions, applied":           {app(pi(n, n), redex), is{api.Pi, "", 1}},
		"an axiom":                     {a, is{api.Const, "a", 0}},
		"an axiom, applied":            {app(f, redex), is{api.Const, "f", 1}},
		"an axiom, applied to more":    {apply(f, redex, redex, con("one")), is{api.Const, "f", 3}},
		"a type":                       {n, is{api.Const, "N", 0}},
		"a type of types":              {sample.PairOf(redex, n), is{api.Const, "Pair", 2}},
		"a constructor":                {num(0), is{api.Const, "N.zero", 0}},
		"a constructor of a redex":     {succ(redex), is{api.Const, "N.succ", 1}},
		"a constructor of nothing":     {con("N.succ"), is{api.Const, "N.succ", 0}},
		"a constructor of too many":    {apply(con("N.zero"), redex, redex), is{api.Const, "N.zero", 2}},
		"a structure's":                {mk(redex, redex), is{api.Const, "Pair.mk", 4}},
		"a list":                       {row(redex, a), is{api.Const, "List.cons", 3}},
		"a name that is none":          {con("none"), is{api.Const, "none", 0}},
		"that, applied":                {app(con("none"), redex), is{api.Const, "none", 1}},
		"a definition at a level":      {con("one", zero), is{api.Const, "one", 0}},
		"id at none, applied":          {apply(con("id"), n, redex), is{api.Const, "id", 2}},
		"id at two":                    {apply(con("id", zero, zero), n, redex), is{api.Const, "id", 2}},
		"a recursor":                   {recN, is{api.Const, "N.rec", 0}},
		"a recursor of one too few":    {apply(recN, lam(n, n), num(0), lam(n, lam(n, succ(vr(0))))), is{api.Const, "N.rec", 3}},
		"a recursor of no levels":      {apply(con("N.rec"), redex, redex, redex, num(1)), is{api.Const, "N.rec", 4}},
		"a recursor of two levels":     {apply(con("N.rec", zero, zero), redex, redex, redex, num(1), a), is{api.Const, "N.rec", 5}},
		"a recursor at a variable":     {count(vr(1)), is{api.Const, "N.rec", 4}},
		"at an axiom, applied":         {apply(count(a), redex, redex), is{api.Const, "N.rec", 6}},
		"at what is at an axiom":       {count(count(first(count(a)))), is{api.Const, "N.rec", 4}},
		"of lists, at a variable":      {sum(vr(0)), is{api.Const, "List.rec", 5}},
		"a projection":                 {first(p), is{api.Proj, "Pair", 0}},
		"a projection of a variable":   {second(vr(7)), is{api.Proj, "Pair", 0}},
		"a projection, applied":        {apply(second(p), redex, redex), is{api.Proj, "Pair", 2}},
		"a projection of a projection": {app(first(second(p)), redex), is{api.Proj, "Pair", 1}},
		"a projection at a recursor":   {first(apply(count(a), a)), is{api.Proj, "Pair", 0}},
		"a projection of no structure": {prj("N", 3, num(1)), is{api.Proj, "N", 0}},
		"one of no name":               {prj("none", 0, mk(a, a)), is{api.Proj, "none", 0}},
	}
}

func TestTheKindsOfHeads(t *testing.T) {
	e := basis(t)
	for what, c := range heads() {
		has(t, what, e, c.x, c.want, 0)
		stays(t, what, e, c.x)
	}
	stays(t, "the farthest variable", e, vr(sample.Far))
	stays(t, "below binders", e, lam(n, pi(n, vr(sample.Far))))
}

// A theorem has a value that is not told; a type none.
func TestWhatIsNotOpened(t *testing.T) {
	e := basis(t, theorem(0, "t", n, num(1)), def(0, "tee", n, con("t")), api.Info{Kind: api.IsType, Name: "V", Type: srt(zero), Value: n})
	has(t, "a theorem", e, con("t"), is{api.Const, "t", 0}, 0)
	has(t, "a theorem, applied", e, app(con("t"), a), is{api.Const, "t", 1}, 0)
	has(t, "a definition of it", e, con("tee"), is{api.Const, "t", 0}, 1)
	has(t, "a recursor at it", e, count(con("tee")), is{api.Const, "N.rec", 4}, 1)
	has(t, "a type with a Value", e, con("V"), is{api.Const, "V", 0}, 0)
}

// Each kind of head is come to by each kind of step, and by two behind one another; what it is applied to stays behind it.
func TestTheWaysToHeads(t *testing.T) {
	e := basis(t)
	inner := id(a)
	for what, h := range heads() {
		for by, c := range sample.Ways(h.x, lifted) {
			becomes(t, what+", by "+by, e, c.X, h.x, c.Steps)
			if h.want.kind != api.Lam && h.want.name != "N.rec" {
				becomes(t, what+", and behind, by "+by, e, apply(c.X, inner, vr(2)), apply(h.x, inner, vr(2)), c.Steps)
			}
		}
	}
	for by, c := range sample.Ways(row(a), lifted) {
		for and, d := range sample.Ways(c.X, lifted) {
			becomes(t, "a list, by "+by+", by "+and, e, d.X, row(a), c.Steps+d.Steps)
		}
	}
}

// What a recursor looks at, or a projection is of, is come to first; if there is a rule it goes on from there.
func TestTheWaysWithin(t *testing.T) {
	e := basis(t)
	for by, c := range sample.Ways(num(0), lifted) {
		x := apply(recN, vr(2), vr(0), f, c.X)
		becomes(t, "at 0, by "+by, e, x, vr(0), 4+c.Steps)
		becomes(t, "at 0, and behind, by "+by, e, apply(x, a, num(1)), apply(vr(0), a, num(1)), 4+c.Steps)
	}
	for by, c := range sample.Ways(succ(vr(7)), lifted) {
		becomes(t, "at one more, by "+by, e, apply(recN, vr(2), vr(0), f, c.X), apply(f, vr(7), apply(recN, vr(2), vr(0), f, vr(7))), 5+c.Steps)
		becomes(t, "at one more, counted, by "+by, e, count(c.X), succ(count(vr(7))), 7+c.Steps)
	}
	for by, c := range sample.Ways(a, lifted) {
		becomes(t, "at a, by "+by, e, apply(recN, vr(2), vr(0), f, c.X), apply(recN, vr(2), vr(0), f, a), c.Steps)
		becomes(t, "at a, and behind, by "+by, e, apply(count(c.X), con("one"), vr(1)), apply(count(a), con("one"), vr(1)), c.Steps)
		becomes(t, "at a field at a, by "+by, e, count(first(count(c.X))), count(first(count(a))), c.Steps)
	}
	for by, c := range sample.Ways(mk(f, vr(5)), lifted) {
		becomes(t, "of a pair, by "+by, e, second(c.X), vr(5), 1+c.Steps)
		becomes(t, "of a pair, and behind, by "+by, e, apply(first(c.X), con("one"), vr(1)), apply(f, con("one"), vr(1)), 1+c.Steps)
	}
	for by, c := range sample.Ways(p, lifted) {
		becomes(t, "of p, by "+by, e, second(c.X), second(p), c.Steps)
		becomes(t, "of p, and behind, by "+by, e, apply(first(c.X), con("one"), vr(1)), apply(first(p), con("one"), vr(1)), c.Steps)
	}
}

// others: an environment in which there is more at which a recursor, or a projection, may look in vain.
func others(t *testing.T) *env.Env {
	t.Helper()
	return basis(t, theorem(0, "t", n, num(1)), axiom(0, "pp", couple),
		api.Info{Kind: api.IsType, Name: "Other", Type: srt(zero), Record: true},
		api.Info{Kind: api.IsCtor, Name: "Other.mk", Type: n, Of: "Other", Fields: 1},
		api.Info{Kind: api.IsType, Name: "Plain", Type: srt(zero)},
		api.Info{Kind: api.IsCtor, Name: "Plain.mk", Type: n, Of: "Plain", Fields: 1},
		api.Info{Kind: api.IsRec, Name: "N.bad", Params: 1, Type: n, Motives: 1, Minors: 2, Rules: []api.Rule{ruled("N.zero", 1, n), ruled("N.succ", 0, n), ruled("a", 0, n)}},
	)
}

// What there is no rule for: all kinds of heads, and constructors of others, or of another number of arguments.
func TestWithoutARule(t *testing.T) {
	e := others(t)
	list := map[string]api.Term{
		"a theorem":             con("t"),
		"succ of two":           apply(con("N.succ"), a, a),
		"zero of one":           app(con("N.zero"), a),
		"nil":                   row(),
		"cons of two":           apply(con("List.cons", zero), n, a),
		"a pair of too few":     apply(con("Pair.mk", zero, zero), n, n, a),
		"a pair of too many":    apply(mk(a, a), a),
		"another structure":     app(con("Other.mk"), a),
		"what is no structure":  app(con("Plain.mk"), a),
		"of what is no name":    con("no.name"),
		"a pair":                mk(a, a),
		"a number":              num(2),
		"a number's succ alone": con("N.succ"),
	}
	for what, h := range heads() {
		list[what] = h.x
	}
	for _, m := range list {
		for _, x := range []api.Term{
			apply(recN, vr(2), vr(0), f, m), apply(con("N.rec", two), vr(2), vr(0), f, m), sum(m), apply(con("N.bad", zero), vr(0), vr(1), vr(2), m),
			first(m), second(m), prj("Pair", 2, m), prj("Pair", api.MaxArgs-1, m), prj("Other", 0, m), prj("Other", 1, m), prj("Plain", 0, m), prj("N", 0, m), prj("N.succ", 0, m),
		} {
			obeyed(t, e, x, 40)
			obeyed(t, e, apply(x, con("one"), a), 40)
		}
		obeyed(t, e, count(id(m)), 40)
		obeyed(t, e, first(id(m)), 40)
	}
	has(t, "a rule of no field", e, apply(con("N.bad", zero), vr(0), vr(1), vr(2), id(con("N.succ"))), is{api.Const, "N", 3}, 4)
	has(t, "a rule of another number of fields", e, apply(con("N.bad", zero), vr(0), vr(1), vr(2), id(num(2))), is{api.Const, "N.bad", 4}, 3)
	has(t, "the third field", e, prj("Pair", 2, id(mk(a, a))), is{api.Proj, "Pair", 0}, 3)
	has(t, "of another structure", e, prj("Other", 0, id(mk(a, a))), is{api.Proj, "Other", 0}, 3)
	has(t, "a pair of too few", e, first(apply(con("Pair.mk", zero, zero), n, n, id(a))), is{api.Proj, "Pair", 0}, 0)
}

// Rules of more than the sample has: arguments behind a Major, indices, motives and minors, a rule that comes twice, parameters at levels.
func TestRulesOfAllParts(t *testing.T) {
	u := sample.P(0, 1)
	e := basis(t, axiom(1, "hit", n),
		api.Info{Kind: api.IsCtor, Name: "c", Params: 1, Type: n, Of: "C", Fixed: 2, Fields: 3},
		api.Info{Kind: api.IsRec, Name: "r", Params: 1, Type: n, Of: "C", Fixed: 2, Motives: 2, Minors: 3, Index: 2, Rules: []api.Rule{
			ruled("c", 3, con("hit", u)), ruled("c", 3, n), ruled("d", 1, n),
		}},
	)
	v := func(from, to int) (l []api.Term) {
		for i := from; i < to; i++ {
			l = append(l, vr(i))
		}
		return l
	}
	major := apply(con("c", two), v(50, 55)...)
	t9 := func(m api.Term) api.Term { return app(apply(con("r", two), v(10, 19)...), m) }
	want := apply(con("hit", sample.Number(3)), append(v(10, 17), v(52, 55)...)...)
	becomes(t, "all parts", e, t9(major), want, 1)
	becomes(t, "all parts, and behind", e, apply(t9(id(major)), v(30, 33)...), apply(want, v(30, 33)...), 4)
	becomes(t, "all parts, of too many", e, t9(app(major, a)), t9(app(major, a)), 0)
	becomes(t, "too few to look at", e, apply(con("r", two), v(10, 19)...), apply(con("r", two), v(10, 19)...), 0)
	becomes(t, "stuck", e, apply(t9(id(a)), v(30, 33)...), apply(t9(a), v(30, 33)...), 3)
}

// Levels come to what a name becomes; one that is too great is ErrFuel, however much there is.
func TestLevels(t *testing.T) {
	u := sample.P(0, 3)
	e := basis(t, def(1, "sort", srt(sample.P(0, 4)), srt(u)),
		api.Info{Kind: api.IsRec, Name: "s", Params: 1, Type: n, Rules: []api.Rule{ruled("N.zero", 0, lam(srt(u), srt(u)))}})
	becomes(t, "a definition", e, con("sort", two), srt(sample.Number(5)), 1)
	becomes(t, "a definition at another level", e, app(lam(srt(two), con("sort", zero)), con("sort", two)), srt(sample.Number(3)), 2)
	becomes(t, "a definition at a parameter", e, con("sort", sample.P(2, 1)), srt(sample.P(2, 4)), 1)
	becomes(t, "the greatest level", e, con("sort", sample.Number(api.TopLevel-3)), srt(sample.Number(api.TopLevel)), 1)
	becomes(t, "a rule", e, app(con("s", two), num(0)), lam(srt(sample.Number(5)), srt(sample.Number(5))), 1)
	becomes(t, "a rule at another level", e, apply(con("s", two), num(0), app(con("s", zero), num(0))), srt(sample.Number(5)), 2)
	for _, fuel := range []int{0, 1, 100, 1 << 40} {
		fails(t, "a level that is too great", e, con("sort", sample.Number(api.TopLevel-2)), fuel, api.ErrFuel)
		fails(t, "that, applied", e, app(con("sort", sample.Number(api.TopLevel-2)), a), fuel, api.ErrFuel)
		fails(t, "a rule's level that is too great", e, app(con("s", sample.Number(api.TopLevel-2)), num(0)), fuel, api.ErrFuel)
		fails(t, "within", e, count(first(con("sort", sample.Number(api.TopLevel)))), fuel, api.ErrFuel)
	}
}

// One name at two levels, or at as many as it must have and at others, or another number of arguments, behind one another: each is as it is by itself.
func TestOneNameTwice(t *testing.T) {
	u := sample.P(0, 0)
	hand := lam(n, app(vr(0), srt(u))) // a sort, to what it is applied to
	e := basis(t, def(1, "hand", srt(zero), hand),
		api.Info{Kind: api.IsRec, Name: "s", Params: 1, Type: n, Rules: []api.Rule{ruled("N.zero", 0, hand), ruled("N.succ", 1, lam(n, hand)), ruled("List.nil", 0, hand)}})
	self := lam(srt(two), vr(0))
	becomes(t, "a definition", e, app(con("hand", two), lam(n, app(con("hand", zero), self))), srt(zero), 6)
	becomes(t, "a definition, the other way round", e, app(con("hand", zero), lam(n, app(con("hand", two), self))), srt(two), 6)
	becomes(t, "a rule", e, apply(con("s", two), num(0), lam(n, apply(con("s", zero), num(0), self))), srt(zero), 6)
	becomes(t, "another constructor", e, apply(con("s", two), num(0), lam(n, apply(con("s", zero), num(3), self))), srt(zero), 7)
	becomes(t, "another number of fields", e, apply(con("s", two), row(), lam(n, apply(con("s", two), con("List.nil", zero), self))), apply(con("s", two), con("List.nil", zero), self), 3)
	every := api.Level{} // all parameters
	rec := apply(recN, lam(n, n), num(0), lam(n, lam(n, con("one", every))), con("one"))
	becomes(t, "at none, and at one", e, rec, con("one", every), 1+5+2)
	becomes(t, "a recursor at none", e, apply(recN, lam(n, n), apply(con("N.rec"), n, n, n, num(0)), f, num(0)), apply(con("N.rec"), n, n, n, num(0)), 4)
	becomes(t, "a recursor of fewer", e, apply(recN, lam(n, n), apply(recN, n, n, n), f, num(0)), apply(recN, n, n, n), 4)
	becomes(t, "both fields", e, first(second(mk(a, mk(second(mk(a, f)), a)))), f, 3)
}
