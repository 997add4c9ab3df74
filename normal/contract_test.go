package normal

import (
	"testing"

	"batten/api"
	"batten/sample"
)

// P10.1: what is contracted, and what is not.

func TestALambdaOfWhatItApplies(t *testing.T) {
	e := basis(t)
	for what, c := range map[string]struct {
		x, want api.Term
		steps   int
	}{
		"f":                       {lam(n, app(f, vr(0))), f, 0},
		"f of another type":       {lam(unary, app(f, vr(0))), f, 0},
		"of a type with a step":   {lam(con("one"), app(f, vr(0))), f, 1},
		"a variable":              {lam(n, app(vr(1), vr(0))), vr(0), 0},
		"of two arguments":        {lam(n, apply(f, a, vr(0))), app(f, a), 0},
		"of variables":            {lam(n, apply(vr(5), vr(1), vr(2), vr(0))), apply(vr(4), vr(0), vr(1)), 0},
		"below a binder in it":    {lam(n, apply(f, lam(n, apply(vr(0), vr(2), vr(0))), vr(0))), app(f, lam(n, apply(vr(0), vr(1), vr(0)))), 0},
		"a sort":                  {lam(n, app(srt(zero), vr(0))), srt(zero), 0},
		"functions":               {lam(n, app(pi(n, vr(2)), vr(0))), pi(n, vr(1)), 0},
		"a field":                 {lam(n, app(first(vr(3)), vr(0))), first(vr(2)), 0},
		"a constructor":           {lam(n, succ(vr(0))), con("N.succ"), 0},
		"a structure's":           {lam(n, mk(a, vr(0))), apply(con("Pair.mk", zero, zero), n, n, a), 0},
		"a recursor":              {lam(n, apply(recN, vr(1), vr(2), vr(3), vr(0))), apply(recN, vr(0), vr(1), vr(2)), 0},
		"a recursor that is more": {lam(n, apply(recN, n, n, n, a, vr(0))), apply(recN, n, n, n, a), 0},
		"by a definition":         {con("add"), lam(n, apply(recN, lam(n, n), vr(0), lam(n, con("N.succ")))), 1},
		"by a let":                {lam(n, let(n, vr(0), app(f, vr(0)))), f, 1},
		"by a definition within":  {lam(n, app(f, id(vr(0)))), f, 3},
		"by what is dropped":      {lam(n, app(app(lam(n, f), vr(0)), vr(0))), f, 1},
		"of the variable, by id":  {lam(n, app(app(con("id", zero), n), vr(0))), lam(n, vr(0)), 3},
		"of a lambda":             {lam(n, app(lam(n, app(f, vr(0))), vr(0))), f, 1},
	} {
		becomes(t, what, e, c.x, c.want, c.steps)
		becomes(t, what+", within a lambda", e, lam(n, lifted(c.x)), lam(n, lifted(c.want)), c.steps)
		becomes(t, what+", within functions", e, app(pi(lam(n, c.x), n), c.x), app(pi(lam(n, c.want), n), c.want), 2*c.steps)
	}
}

func TestTheFarthestVariable(t *testing.T) {
	e := basis(t)
	becomes(t, "in a lambda", e, lam(n, app(vr(sample.Far), vr(0))), vr(sample.Far-1), 0)
	becomes(t, "in two", e, lam(n, lam(n, apply(f, lam(n, vr(sample.Far)), vr(1), vr(0)))), app(f, lam(n, vr(sample.Far-2))), 0)
	stays(t, "beside it", e, lam(n, apply(vr(sample.Far), vr(0), vr(sample.Far))))
}

// Where the lambda does more with its variable, or another thing, it stays.
func TestALambdaThatStays(t *testing.T) {
	e := basis(t)
	for what, x := range map[string]api.Term{
		"its variable":                lam(n, vr(0)),
		"another variable":            lam(n, vr(1)),
		"of itself":                   lam(n, app(vr(0), vr(0))),
		"in what it applies":          lam(n, apply(f, vr(0), vr(0))),
		"deep in what it applies":     lam(n, apply(f, lam(n, app(vr(2), vr(1))), vr(0))),
		"in a type there":             lam(n, apply(f, pi(vr(0), n), vr(0))),
		"applied to another variable": lam(n, app(f, vr(1))),
		"applied to a number":         lam(n, app(f, a)),
		"applied to more":             lam(n, app(f, succ(vr(0)))),
		"then to another":             lam(n, apply(f, vr(0), a)),
		"then to another variable":    lam(n, apply(f, vr(0), vr(1))),
		"a field of it":               lam(couple, first(vr(0))),
		"functions":                   lam(n, pi(n, vr(0))),
		"a Pi":                        pi(n, app(f, vr(0))),
		"a Pi, applied":               app(pi(n, app(f, vr(0))), vr(0)),
		"two, the wrong way round":    lam(n, lam(n, apply(f, vr(0), vr(1)))),
		"two, the inner one of both":  lam(n, lam(n, apply(vr(2), vr(1), app(f, vr(0))))),
		"what the outer one is of":    lam(n, app(vr(0), lam(n, vr(0)))),
	} {
		stays(t, what, e, x)
	}
}

// What is contracted within may be contracted again, and again.
func TestLambdasBelowOneAnother(t *testing.T) {
	e := basis(t)
	two := lam(n, lam(n, apply(f, vr(1), vr(0))))
	becomes(t, "two", e, two, f, 0)
	becomes(t, "two, the inner one alone", e, lam(n, lam(n, apply(vr(1), vr(1), vr(0)))), lam(n, app(vr(0), vr(0))), 0)
	becomes(t, "two, the inner one of what is there", e, lam(n, lam(n, apply(f, a, vr(0)))), lam(n, app(f, a)), 0)
	becomes(t, "three", e, lam(n, lam(n, lam(n, apply(f, vr(2), vr(1), vr(0))))), f, 0)
	becomes(t, "three, two of them", e, lam(n, lam(n, lam(n, apply(f, vr(2), vr(2), vr(1), vr(0))))), lam(n, apply(f, vr(0), vr(0))), 0)
	becomes(t, "in what is applied", e, lam(n, app(f, lam(n, apply(vr(1), vr(0))))), f, 0)
	becomes(t, "in what is applied, twice", e, lam(n, app(f, lam(n, app(vr(1), lam(n, app(vr(1), vr(0))))))), f, 0)
	becomes(t, "in what it is applied to", e, lam(n, app(app(f, lam(n, app(vr(2), vr(0)))), vr(0))), app(f, vr(0)), 0)
	becomes(t, "of a lambda that is dropped", e, lam(lam(n, app(f, vr(0))), app(f, vr(0))), f, 0)
	becomes(t, "in a domain", e, lam(lam(n, app(f, vr(0))), vr(0)), lam(f, vr(0)), 0)
	becomes(t, "in functions", e, pi(two, lifted(two)), pi(f, f), 0)
	becomes(t, "in a major argument", e, apply(recN, n, n, n, two), apply(recN, n, n, n, f), 0)
	becomes(t, "in what a Proj is of", e, first(two), first(f), 0)
	becomes(t, "a variable, as long as may be", e, lam(n, app(vr(4), lam(n, app(vr(1), lam(n, app(vr(1), vr(0))))))), vr(3), 0)
	deep := vr(0)
	for range 1000 {
		deep = lam(n, app(vr(1), deep))
	}
	becomes(t, "a variable, longer", e, app(f, app(lam(n, deep), vr(6))), app(f, vr(6)), 1)
}

// A structure's constructor, of all the fields of one and the same.
func TestAStructureOfItsFields(t *testing.T) {
	e := basis(t)
	of := func(x, y, z, v api.Term) api.Term { return apply(con("Pair.mk", zero, zero), x, y, z, v) }
	for what, c := range map[string]struct {
		x, want api.Term
		steps   int
	}{
		"p":                         {both(p), p, 0},
		"a variable":                {both(vr(3)), vr(3), 0},
		"what it is not of":         {both(a), a, 0},
		"what is applied":           {both(apply(vr(0), a, num(2))), apply(vr(0), a, num(2)), 0},
		"a field":                   {both(second(p)), second(p), 0},
		"of other types":            {of(a, srt(zero), first(p), second(p)), p, 0},
		"of types with steps":       {of(con("one"), id(n), first(p), second(p)), p, 4},
		"at other levels":           {apply(con("Pair.mk", sample.P(0, 1), two), n, n, first(p), second(p)), p, 0},
		"at none":                   {apply(con("Pair.mk"), n, n, first(p), second(p)), p, 0},
		"by steps":                  {mk(first(id(p)), second(app(lam(n, vr(0)), p))), p, 4},
		"by steps of both":          {mk(id(first(p)), id(second(p))), p, 6},
		"of what is put together":   {both(mk(a, vr(0))), mk(a, vr(0)), 2},
		"a swap of a swap":          {apply(con("swap", zero, zero), n, n, apply(con("swap", zero, zero), n, n, p)), p, 4 + 2*5},
		"by the same in two ways":   {mk(first(app(f, con("one"))), second(app(f, num(1)))), app(f, num(1)), 1},
		"by a contraction within":   {mk(first(lam(n, app(f, vr(0)))), second(f)), f, 0},
		"one within":                {both(app(f, both(p))), app(f, p), 0},
		"fields that are by both":   {mk(both(first(p)), lam(n, app(second(p), vr(0)))), p, 0},
		"by what a field is of":     {mk(first(both(p)), second(both(p))), p, 2},
		"by what is stuck":          {both(apply(recN, n, n, n, a)), apply(recN, n, n, n, a), 0},
		"below a binder":            {lam(couple, both(vr(0))), lam(couple, vr(0)), 0},
		"in functions":              {pi(both(p), both(vr(0))), pi(p, vr(0)), 0},
		"below a binder, of others": {lam(couple, mk(first(vr(1)), second(vr(1)))), lam(couple, vr(1)), 0},
	} {
		becomes(t, what, e, c.x, c.want, c.steps)
		becomes(t, what+", within", e, apply(f, c.x, pi(n, lifted(c.x))), apply(f, c.want, pi(n, lifted(c.want))), 2*c.steps)
	}
}

// Where one thing is another one it stays.
func TestAStructureThatStays(t *testing.T) {
	e := basis(t,
		api.Info{Kind: api.IsType, Name: "Other", Type: srt(zero), Record: true},
		api.Info{Kind: api.IsCtor, Name: "Other.mk", Type: n, Of: "Other", Fields: 2},
		api.Info{Kind: api.IsType, Name: "Plain", Type: srt(zero)},
		api.Info{Kind: api.IsCtor, Name: "Plain.mk", Type: n, Of: "Plain", Fields: 2},
		axiom(0, "ax", n), theorem(0, "th", n, a),
	)
	mk3 := apply(con("Pair.mk", zero, zero), n, n, first(p))
	for what, x := range map[string]api.Term{
		"the fields the other way round": mk(second(p), first(p)),
		"the first one twice":            mk(first(p), first(p)),
		"the second one twice":           mk(second(p), second(p)),
		"fields of two terms":            mk(first(vr(0)), second(vr(1))),
		"fields of two terms, the first": mk(first(p), second(vr(1))),
		"a field of a field":             mk(first(p), second(first(p))),
		"just the first":                 mk(first(p), a),
		"just the second":                mk(a, second(p)),
		"none":                           mk(a, a),
		"without the second":             mk3,
		"without both":                   apply(con("Pair.mk", zero, zero), n, n),
		"without all":                    con("Pair.mk", zero, zero),
		"without types":                  apply(con("Pair.mk", zero, zero), first(p), second(p)),
		"without one type":               apply(con("Pair.mk", zero, zero), n, first(p), second(p)),
		"applied to more":                app(both(p), a),
		"applied to a field":             apply(both(p), second(p)),
		"applied to one field more":      app(both(p), prj("Pair", 2, p)),
		"applied to its fields again":    apply(both(p), first(p), second(p)),
		"fields of another structure":    mk(prj("Other", 0, p), prj("Other", 1, p)),
		"a field of another structure":   mk(first(p), prj("Other", 1, p)),
		"of a constructor's name":        mk(prj("Pair.mk", 0, p), prj("Pair.mk", 1, p)),
		"fields of other places":         mk(prj("Pair", 1, p), prj("Pair", 2, p)),
		"fields that are applied":        mk(app(first(p), a), app(second(p), a)),
		"another one's constructor":      apply(con("Other.mk"), first(p), second(p)),
		"what is no structure":           apply(con("Plain.mk"), prj("Plain", 0, p), prj("Plain", 1, p)),
		"a type":                         apply(con("Pair", zero, zero), n, n, first(p), second(p)),
		"an axiom":                       apply(con("ax"), n, n, first(p), second(p)),
		"a theorem":                      apply(con("th"), n, n, first(p), second(p)),
		"a name that is none":            apply(con("none"), n, n, first(p), second(p)),
		"a variable":                     apply(vr(0), n, n, first(p), second(p)),
		"a field of a structure":         apply(first(p), n, n, first(p), second(p)),
		"lists":                          apply(con("List.cons", zero), n, prj("List", 0, p), prj("List", 1, p)),
		"a number":                       succ(prj("N", 0, p)),
		"below a binder, two":            lam(couple, mk(first(vr(0)), second(vr(1)))),
		"a lambda":                       lam(n, first(p)),
	} {
		stays(t, what, e, x)
		stays(t, what+", within", e, pi(app(f, x), lifted(x)))
	}
	becomes(t, "the other one's own", e, apply(con("Other.mk"), prj("Other", 0, p), prj("Other", 1, p)), p, 0)
}

// Structures of any number of fields; of none there is nothing that they are fields of.
func TestStructuresOfOtherSizes(t *testing.T) {
	fields := func(s string, of int, y api.Term) []api.Term {
		var l []api.Term
		for i := range of {
			l = append(l, prj(s, i, y))
		}
		return l
	}
	for _, fixed := range []int{0, 1, 3} {
		for of := range api.MaxArgs + 2 {
			e := basis(t,
				api.Info{Kind: api.IsType, Name: "S", Type: srt(zero), Record: true},
				api.Info{Kind: api.IsCtor, Name: "S.mk", Type: n, Of: "S", Fixed: fixed, Fields: of},
			)
			ahead := apply(con("S.mk"), []api.Term{first(p), second(p), prj("S", 0, p)}[:fixed]...)
			switch {
			case of == 0:
				stays(t, "of none", e, ahead)
				stays(t, "of none, and more", e, apply(ahead, prj("S", 0, p)))
			case of <= api.MaxArgs:
				becomes(t, "of so many", e, apply(ahead, fields("S", of, p)...), p, 0)
				stays(t, "one less", e, apply(ahead, fields("S", of-1, p)...))
				stays(t, "one more", e, apply(ahead, append(fields("S", of, p), first(p))...))
				if of > 1 {
					stays(t, "of another one at last", e, apply(ahead, append(fields("S", of-1, p), prj("S", of-1, f))...))
					stays(t, "of another one at first", e, apply(ahead, append([]api.Term{prj("S", 0, f)}, fields("S", of, p)[1:]...)...))
				}
			}
		}
	}
}

// A structure has just one constructor, that of rules.Record.
func TestTheConstructorOfAStructure(t *testing.T) {
	structure := api.Info{Kind: api.IsType, Name: "S", Type: srt(zero), Record: true}
	ctor := func(kind uint8, name, of string) api.Info {
		return api.Info{Kind: kind, Name: name, Type: n, Of: of, Fields: 1}
	}
	field := prj("S", 0, vr(0))
	e := basis(t, structure, ctor(api.IsAxiom, "S.a", "S"), ctor(api.IsRec, "S.r", "S"), ctor(api.IsType, "S.t", "S"), ctor(api.IsCtor, "S.mk", "S"), ctor(api.IsCtor, "S.b", "S"), ctor(api.IsCtor, "T.mk", "T"))
	becomes(t, "it", e, app(con("S.mk"), field), vr(0), 0)
	for _, s := range []string{"S.a", "S.r", "S.t", "S.b", "T.mk", "S"} {
		stays(t, s, e, app(con(s), field))
	}
	for what, kind := range map[string]uint8{"an axiom": api.IsAxiom, "a constructor": api.IsCtor, "a recursor": api.IsRec} {
		structure.Kind = kind
		e = basis(t, structure, ctor(api.IsCtor, "S.mk", "S"))
		stays(t, what, e, app(con("S.mk"), field))
	}
	e = basis(t, ctor(api.IsCtor, "S.mk", "S"))
	stays(t, "of nothing", e, app(con("S.mk"), field))
}

// What is contracted again behind a contraction, of the other sort, too.
func TestContractedAgain(t *testing.T) {
	e := basis(t)
	becomes(t, "a structure behind a lambda", e, lam(n, app(both(vr(1)), vr(0))), vr(0), 0)
	becomes(t, "of p", e, lam(n, app(both(p), vr(0))), p, 0)
	becomes(t, "and a lambda behind that", e, lam(n, lam(n, app(both(app(f, vr(1))), vr(0)))), f, 0)
	becomes(t, "and a structure behind that", e, lam(n, app(both(lam(n, app(both(vr(2)), vr(0)))), vr(0))), vr(0), 0)
	becomes(t, "a lambda of two", e, lam(n, lam(n, apply(both(vr(2)), vr(1), vr(0)))), vr(0), 0)
	becomes(t, "in which it is there", e, lam(n, app(both(vr(0)), vr(0))), lam(n, app(both(vr(0)), vr(0))), 0)
	becomes(t, "a structure of a structure", e, both(app(f, both(vr(0)))), app(f, vr(0)), 0)
	becomes(t, "fields that are structures", e, mk(both(first(p)), both(second(p))), p, 0)
	becomes(t, "fields that are lambdas", e, mk(lam(n, app(first(p), vr(0))), lam(n, app(second(p), vr(0)))), p, 0)
	becomes(t, "fields of what is a lambda", e, mk(first(lam(n, app(vr(4), vr(0)))), second(vr(3))), vr(3), 0)
	becomes(t, "a lambda of the field of one", e, lam(n, app(second(both(p)), vr(0))), second(p), 1)
	becomes(t, "a lambda of a structure of its variable", e, lam(couple, app(f, both(vr(0)))), f, 0)
	becomes(t, "a lambda of a lambda of its variable", e, lam(unary, app(f, lam(n, app(vr(1), vr(0))))), f, 0)
}
