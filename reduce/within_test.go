package reduce

import (
	"testing"

	"batten/api"
	"batten/sample"
	"batten/subst"
)

// P9.1: the rows of the table, one behind the other, within what a recursor looks at and within what a projection is of.

// lifted: a term, one binder further in.
func lifted(t api.Term) api.Term {
	t, _ = subst.Lift(t, 0, 1)
	return t
}

func TestStepsWithinAMajor(t *testing.T) {
	e := basis(t)
	for what, c := range sample.Ways(num(0), lifted) {
		x := apply(recN, vr(2), vr(0), f, c.X)
		becomes(t, "at 0: "+what, e, x, vr(0), 4+c.Steps)
		becomes(t, "at 0, and behind: "+what, e, apply(x, a, num(1)), apply(vr(0), a, num(1)), 4+c.Steps)
	}
	for what, c := range sample.Ways(succ(vr(7)), lifted) { // what is put into the rule is the weak head's field, t stays as it is
		becomes(t, "at one more: "+what, e, apply(recN, vr(2), vr(0), f, c.X), apply(f, vr(7), apply(recN, vr(2), vr(0), f, vr(7))), 5+c.Steps)
		becomes(t, "at one more, counted: "+what, e, count(c.X), succ(count(vr(7))), 7+c.Steps)
	}
	for what, c := range sample.Ways(a, lifted) { // no constructor: it stands in the place of what it is the weak head of
		becomes(t, "at a: "+what, e, apply(recN, vr(2), vr(0), f, c.X), apply(recN, vr(2), vr(0), f, a), c.Steps)
		becomes(t, "at a, and behind: "+what, e, apply(count(c.X), con("one"), vr(1)), apply(count(a), con("one"), vr(1)), c.Steps)
	}
}

func TestStepsWithinAProjection(t *testing.T) {
	e := basis(t)
	for what, c := range sample.Ways(mk(f, vr(5)), lifted) {
		becomes(t, "of a pair: "+what, e, prj("Pair", 1, c.X), vr(5), 1+c.Steps)
		becomes(t, "of a pair, and behind: "+what, e, apply(prj("Pair", 0, c.X), con("one"), vr(1)), apply(f, con("one"), vr(1)), 1+c.Steps)
	}
	for what, c := range sample.Ways(p, lifted) {
		becomes(t, "of p: "+what, e, prj("Pair", 1, c.X), prj("Pair", 1, p), c.Steps)
		becomes(t, "of p, and behind: "+what, e, apply(prj("Pair", 0, c.X), con("one"), vr(1)), apply(prj("Pair", 0, p), con("one"), vr(1)), c.Steps)
	}
}

// One in another, in another: each is gone on with behind the one within, and none without it.
func TestStepsWithinOneAnother(t *testing.T) {
	e := basis(t)
	at, steps := num(0), 0
	stuck := vr(3)
	for i := range 40 {
		if i%3 == 2 {
			at, stuck, steps = prj("Pair", 1, mk(a, at)), prj("Pair", 1, stuck), steps+1
		} else {
			at, stuck, steps = apply(recN, vr(2), num(0), f, at), apply(recN, vr(2), num(0), f, stuck), steps+4
		}
		becomes(t, "at 0", e, at, num(0), steps)
		stays(t, "stuck", e, stuck)
		becomes(t, "stuck, behind a step", e, app(lam(n, lifted(stuck)), a), stuck, 1)
	}
	half := stuck
	for range 5 { // each with a step of its own within it, of which none is made
		half = apply(recN, con("one"), con("one"), con("one"), prj("Pair", 0, half))
	}
	stays(t, "with steps where none is asked for", e, half)
	inner := apply(con("id", zero), n, a)
	becomes(t, "the innermost ones", e, count(prj("Pair", 0, prj("Pair", 1, count(inner)))), count(prj("Pair", 0, prj("Pair", 1, count(a)))), 3)
}

// What a recursor is given is of no constructor of its own, or of another number of arguments: its weak head stands in its place, steps are taken just by that.
func TestAMajorWithoutARule(t *testing.T) {
	e := basis(t, theorem(0, "t", n, num(1)), def(0, "tee", n, con("t")),
		api.Info{Kind: api.IsCtor, Name: "none", Type: n, Of: "N"},
		api.Info{Kind: api.IsRec, Name: "N.bad", Params: 1, Type: n, Motives: 1, Minors: 2, Rules: []api.Rule{rule("N.zero", 1, n), rule("N.succ", 0, n), rule("a", 0, n)}})
	id := func(x api.Term) api.Term { return apply(con("id", zero), n, x) }
	stuck := apply(recN, n, n, n, vr(0))
	for what, m := range map[string]api.Term{
		"a variable":              vr(4),
		"a variable, applied":     apply(vr(4), num(1)),
		"an axiom":                a,
		"an axiom, applied":       app(f, num(0)),
		"a theorem":               con("t"),
		"a name that is none":     con("no.name"),
		"a sort":                  srt(two),
		"functions":               unary,
		"a lambda":                lam(n, con("one")),
		"a type":                  n,
		"a recursor":              con("N.rec", zero),
		"what is stuck":           stuck,
		"what is stuck, applied":  apply(stuck, a, a),
		"a projection":            prj("Pair", 0, p),
		"succ of nothing":         con("N.succ"),
		"succ of two":             apply(con("N.succ"), a, a),
		"zero of one":             app(con("N.zero"), a),
		"a constructor of pairs":  mk(a, a),
		"nil":                     app(con("List.nil", zero), n),
		"one without a rule":      con("none"),
		"a definition, of levels": con("one", zero),
	} {
		for _, rec := range []api.Term{recN, con("N.rec", two)} {
			stays(t, what, e, apply(rec, vr(2), vr(0), f, m))
			stays(t, what+", and behind", e, apply(rec, vr(2), vr(0), f, m, con("one"), a))
			becomes(t, what+", by three steps", e, apply(rec, vr(2), vr(0), f, id(m)), apply(rec, vr(2), vr(0), f, m), 3)
			becomes(t, what+", by four, and behind", e, apply(rec, vr(2), vr(0), f, let(n, vr(0), id(lifted(m))), con("one"), a), apply(rec, vr(2), vr(0), f, m, con("one"), a), 4)
		}
	}
	cons := con("List.cons", zero)
	for what, m := range map[string]api.Term{
		"nil of nothing":  con("List.nil", zero),
		"nil of two":      apply(con("List.nil", zero), n, a),
		"cons of two":     apply(cons, n, a),
		"cons of four":    apply(cons, n, a, a, a),
		"a number":        num(1),
		"a thing like it": apply(vr(1), n, a, a),
	} {
		becomes(t, what, e, apply(recList, n, vr(0), vr(1), f, id(m)), apply(recList, n, vr(0), vr(1), f, m), 3)
	}
	bad := func(m api.Term) api.Term { return apply(con("N.bad", zero), vr(0), vr(1), vr(2), m) }
	for _, m := range []api.Term{num(0), num(2), a, con("N.succ")} { // rules of other numbers of fields, and of what is no constructor
		if m.S == "N.succ" {
			becomes(t, "a rule of no field", e, bad(id(m)), apply(n, vr(0), vr(1), vr(2)), 4)
			continue
		}
		becomes(t, "without its rule", e, bad(id(m)), bad(m), 3)
	}
}

// A projection of what is no structure, of a field that is not there, of another structure, of what is no constructor, or of too few or too many arguments.
func TestAProjectionWithoutAField(t *testing.T) {
	e := basis(t,
		api.Info{Kind: api.IsType, Name: "Other", Type: srt(zero), Record: true},
		api.Info{Kind: api.IsCtor, Name: "Other.mk", Type: n, Of: "Other", Fields: 1},
		api.Info{Kind: api.IsType, Name: "Plain", Type: srt(zero)},
		api.Info{Kind: api.IsCtor, Name: "Plain.mk", Type: n, Of: "Plain", Fields: 1},
	)
	id := func(x api.Term) api.Term { return apply(con("id", zero), n, x) }
	for what, c := range map[string]struct {
		s string
		i int
		m api.Term
	}{
		"no structure":            {"Plain", 0, app(con("Plain.mk"), a)},
		"numbers":                 {"N", 0, num(1)},
		"a name that is none":     {"none", 0, mk(a, a)},
		"of a constructor":        {"Pair.mk", 0, mk(a, a)},
		"of a definition":         {"one", 0, mk(a, a)},
		"another structure":       {"Other", 0, mk(a, a)},
		"one of another":          {"Pair", 0, app(con("Other.mk"), a)},
		"the third field":         {"Pair", 2, mk(a, a)},
		"the last one there is":   {"Pair", api.MaxArgs - 1, mk(a, a)},
		"the second of one":       {"Other", 1, app(con("Other.mk"), a)},
		"an axiom":                {"Pair", 0, p},
		"a variable":              {"Pair", 1, vr(4)},
		"a variable, applied":     {"Pair", 1, apply(vr(4), n, n, a, a)},
		"a lambda":                {"Pair", 1, lam(n, mk(a, a))},
		"a sort":                  {"Pair", 1, srt(zero)},
		"functions":               {"Pair", 1, pi(n, n)},
		"the structure":           {"Pair", 1, apply(con("Pair", zero, zero), n, n)},
		"one argument too few":    {"Pair", 0, apply(con("Pair.mk", zero, zero), n, n, a)},
		"two too few":             {"Pair", 0, apply(con("Pair.mk", zero, zero), n, n)},
		"one too many":            {"Pair", 0, apply(con("Pair.mk", zero, zero), n, n, a, a, a)},
		"of no arguments":         {"Pair", 0, con("Pair.mk", zero, zero)},
		"what is stuck":           {"Pair", 0, count(a)},
		"a projection":            {"Pair", 0, prj("Pair", 1, p)},
		"one of which is nothing": {"Pair", 0, prj("Pair", 2, mk(mk(a, a), a))},
	} {
		stays(t, what, e, prj(c.s, c.i, c.m))
		stays(t, what+", and behind", e, apply(prj(c.s, c.i, c.m), con("one"), a))
		becomes(t, what+", by three steps", e, prj(c.s, c.i, id(c.m)), prj(c.s, c.i, c.m), 3)
		becomes(t, what+", by four, and behind", e, apply(prj(c.s, c.i, let(n, vr(0), id(lifted(c.m)))), con("one"), a), apply(prj(c.s, c.i, c.m), con("one"), a), 4)
	}
}

// As many as may stand in one another.
func TestStepsDeepWithin(t *testing.T) {
	e := basis(t)
	at, stuck, fields := num(0), vr(3), p
	for range 800 {
		at, stuck = apply(recN, n, num(0), n, at), apply(recN, n, num(0), n, stuck)
	}
	for range api.TopDepth - 1 {
		fields = prj("Pair", 0, fields)
	}
	tells(t, "at 0", e, at, 3300, num(0), 100, api.OK)
	tells(t, "at 0, one too few", e, at, 3199, api.Term{}, 0, api.ErrFuel)
	tells(t, "at a variable", e, stuck, 0, stuck, 0, api.OK)
	tells(t, "of p", e, fields, 7, fields, 7, api.OK)
}
