package reduce

import (
	"testing"

	"batten/api"
	"batten/sample"
)

// P9.1: the rows of the table, each by itself.

// Of what there is no step.
func TestNoStep(t *testing.T) {
	e := basis(t, theorem(0, "t", n, con("one")), api.Info{Kind: api.IsType, Name: "V", Type: srt(zero), Value: n})
	redex := app(lam(n, vr(0)), con("one")) // what stands within is not asked for
	for what, x := range map[string]api.Term{
		"a sort":                         srt(two),
		"a sort, applied":                app(srt(zero), redex),
		"a variable":                     vr(0),
		"the farthest one":               vr(sample.Far),
		"a variable, applied":            apply(vr(3), redex, redex),
		"a lambda of nothing":            lam(n, n),
		"a lambda with steps within":     lam(redex, redex),
		"functions":                      pi(n, n),
		"functions, with steps within":   pi(redex, redex),
		"functions, applied":             app(pi(n, n), redex),
		"an axiom":                       a,
		"an axiom, applied":              app(f, redex),
		"an axiom, applied to more":      apply(f, redex, redex, con("one")),
		"a theorem":                      con("t"),
		"a theorem, applied":             app(con("t"), redex),
		"a type":                         n,
		"a type with a Value":            con("V"),
		"a constructor":                  num(2),
		"a constructor of a redex":       succ(redex),
		"a constructor, of too many":     apply(con("N.zero"), redex, redex),
		"a structure's":                  mk(redex, redex),
		"a name that is none":            con("none"),
		"that, applied":                  app(con("none"), redex),
		"one at a level":                 con("one", zero),
		"one at four":                    app(con("one", zero, two, zero, two), redex),
		"id at none":                     con("id"),
		"id at none, applied":            apply(con("id"), n, redex),
		"id at two":                      apply(con("id", zero, zero), n, redex),
		"swap at one":                    con("swap", two),
		"a recursor":                     recN,
		"of two":                         apply(recN, redex, redex),
		"of one too few":                 apply(recN, lam(n, n), num(0), lam(n, lam(n, succ(vr(0))))),
		"one too few, of lists":          apply(recList, n, redex, redex, redex),
		"of no levels":                   apply(con("N.rec"), redex, redex, redex, num(1)),
		"of two levels":                  apply(con("N.rec", zero, zero), redex, redex, redex, num(1)),
		"of lists, at one level":         apply(con("List.rec", zero), n, redex, redex, redex, app(con("List.nil", zero), n)),
		"of lists, at three":             apply(con("List.rec", zero, zero, zero), n, redex, redex, redex, redex),
		"a structure's, at two levels":   apply(con("Pair.rec", zero, zero), n, n, redex, redex, mk(a, a)),
		"a structure's, at four levels":  apply(con("Pair.rec", zero, zero, zero, zero), n, n, redex, redex, mk(a, a)),
		"no recursor, of the form of it": apply(con("none", zero), redex, redex, redex, num(1)),
	} {
		stays(t, what, e, x)
	}
}

func TestStepOfALambda(t *testing.T) {
	e := basis(t)
	for what, c := range map[string]struct{ x, want api.Term }{
		"its variable":             {app(lam(n, vr(0)), a), a},
		"no variable":              {app(lam(n, n), a), n},
		"another variable":         {app(lam(n, vr(3)), a), vr(2)},
		"a free one":               {app(lam(n, vr(0)), vr(7)), vr(7)},
		"both":                     {app(lam(n, apply(f, vr(0), vr(1), vr(0))), vr(4)), apply(f, vr(4), vr(0), vr(4))},
		"below a binder":           {app(lam(n, lam(vr(0), apply(vr(0), vr(1), vr(2)))), vr(4)), lam(vr(4), apply(vr(0), vr(5), vr(1)))},
		"with an argument behind":  {apply(lam(n, app(f, vr(0))), a, vr(2)), apply(f, a, vr(2))},
		"with two behind":          {apply(lam(n, vr(0)), f, vr(2), num(1)), apply(f, vr(2), num(1))},
		"a redex that stays":       {app(lam(n, app(f, vr(0))), app(lam(n, vr(0)), a)), app(f, app(lam(n, vr(0)), a))},
		"a redex that is not used": {app(lam(n, n), con("one")), n},
		"a type that is none":      {app(lam(con("none", two), vr(0)), a), a},
		"a lambda of nothing then": {app(lam(n, vr(0)), lam(n, con("one"))), lam(n, con("one"))},
	} {
		becomes(t, what, e, c.x, c.want, 1)
	}
	three := lam(n, lam(n, lam(n, apply(f, vr(2), vr(1), vr(0)))))
	becomes(t, "of three, one", e, app(three, num(1)), lam(n, lam(n, apply(f, num(1), vr(1), vr(0)))), 1)
	becomes(t, "of three, two", e, apply(three, num(1), vr(0)), lam(n, apply(f, num(1), vr(1), vr(0))), 2)
	becomes(t, "of three, three", e, apply(three, num(1), vr(0), a), apply(f, num(1), vr(0), a), 3)
	becomes(t, "of three, four", e, apply(three, num(1), vr(0), a, p), apply(f, num(1), vr(0), a, p), 3)
}

func TestStepOfALet(t *testing.T) {
	e := basis(t)
	for what, c := range map[string]struct {
		x, want api.Term
		steps   int
	}{
		"its variable":           {let(n, a, vr(0)), a, 1},
		"no variable":            {let(n, a, vr(1)), vr(0), 1},
		"applied":                {app(let(n, f, vr(0)), a), app(f, a), 1},
		"applied to three":       {apply(let(n, f, app(vr(0), vr(1))), a, vr(3), num(1)), apply(f, vr(0), a, vr(3), num(1)), 1},
		"a value that is open":   {let(n, vr(4), lam(n, app(vr(0), vr(1)))), lam(n, app(vr(0), vr(5))), 1},
		"a value with a step":    {let(n, con("one"), app(f, vr(0))), app(f, con("one")), 1},
		"a type with a step":     {let(con("one"), a, vr(0)), a, 1},
		"in a let":               {let(n, a, let(n, f, app(vr(0), vr(1)))), app(f, a), 2},
		"of a let":               {let(n, let(n, a, vr(0)), vr(0)), a, 2},
		"of a let that waits":    {let(n, let(n, a, vr(0)), app(f, vr(0))), app(f, let(n, a, vr(0))), 1},
		"of a lambda":            {app(let(n, a, lam(n, apply(f, vr(0), vr(1)))), vr(6)), apply(f, vr(6), a), 2},
		"a lambda in its place":  {let(n, lam(n, vr(0)), app(vr(0), a)), a, 2},
		"of which nothing is so": {lam(n, let(n, a, vr(0))), lam(n, let(n, a, vr(0))), 0},
	} {
		becomes(t, what, e, c.x, c.want, c.steps)
	}
}

func TestStepOfADefinition(t *testing.T) {
	u, v := sample.P(1, 2), sample.Number(7)
	e := basis(t, theorem(0, "t", n, con("one")), def(0, "uno", n, con("one")), def(0, "opaque", n, con("t")),
		def(1, "sort", srt(sample.P(0, 1)), srt(sample.P(0, 0))))
	value := func(s string, by ...api.Level) api.Term {
		x, _ := e.Value(con(s, by...))
		return x
	}
	for what, c := range map[string]struct {
		x, want api.Term
		steps   int
	}{
		"one":                 {con("one"), num(1), 1},
		"one, applied":        {apply(con("one"), a, vr(0)), apply(num(1), a, vr(0)), 1},
		"one by another name": {con("uno"), num(1), 2},
		"down to a theorem":   {app(con("opaque"), con("one")), app(con("t"), con("one")), 1},
		"add":                 {con("add"), value("add"), 1},
		"id at a level":       {con("id", u), lam(srt(u), lam(vr(0), vr(0))), 1},
		"id of a type":        {app(con("id", zero), n), lam(n, vr(0)), 2},
		"id of what it is of": {apply(con("id", zero), n, a), a, 3},
		"id of a function":    {apply(con("id", zero), unary, f, con("one")), app(f, con("one")), 3},
		"id of itself":        {apply(con("id", two), pi(srt(zero), pi(vr(0), vr(1))), con("id", zero), n, a), a, 6},
		"a sort":              {con("sort", v), srt(v), 1},
		"a sort of a level":   {app(con("sort", u), con("sort", v)), app(srt(u), con("sort", v)), 1},
		"swap at levels":      {con("swap", u, v), value("swap", u, v), 1},
		"Pair.rec at levels":  {con("Pair.rec", u, v, zero), value("Pair.rec", u, v, zero), 1},
	} {
		becomes(t, what, e, c.x, c.want, c.steps)
	}
}

// A recursor at constructors: what its rule's body becomes, applied, and what is done with that.
func TestStepOfARecursor(t *testing.T) {
	e := basis(t)
	nil0 := app(con("List.nil", zero), n)
	cons := apply(con("List.cons", zero), n, a, nil0)
	folded := func(major api.Term, behind ...api.Term) api.Term {
		return apply(apply(recList, vr(5), vr(4), vr(3), f, major), behind...)
	}
	for what, c := range map[string]struct {
		x, want api.Term
		steps   int
	}{
		"of 0":                   {apply(recN, vr(2), vr(0), vr(1), num(0)), vr(0), 4},
		"of 0, a step in it":     {apply(recN, vr(2), con("one"), vr(1), num(0)), num(1), 5},
		"of 0, and behind":       {apply(recN, vr(2), vr(0), vr(1), num(0), a, vr(4)), apply(vr(0), a, vr(4)), 4},
		"of 1":                   {apply(recN, vr(2), vr(0), f, num(1)), apply(f, num(0), apply(recN, vr(2), vr(0), f, num(0))), 5},
		"of 2, and behind":       {apply(recN, vr(2), vr(0), f, num(2), a), apply(f, num(1), apply(recN, vr(2), vr(0), f, num(1)), a), 5},
		"of one more than a":     {apply(recN, vr(2), vr(0), f, succ(a)), apply(f, a, apply(recN, vr(2), vr(0), f, a)), 5},
		"of a free one":          {apply(recN, vr(2), vr(0), f, succ(vr(9))), apply(f, vr(9), apply(recN, vr(2), vr(0), f, vr(9))), 5},
		"at another level":       {apply(con("N.rec", two), vr(2), vr(0), f, num(1)), apply(f, num(0), apply(con("N.rec", two), vr(2), vr(0), f, num(0))), 5},
		"counted":                {count(num(2)), succ(count(num(1))), 7},
		"of nil":                 {folded(nil0), vr(3), 5},
		"of nil, and behind":     {folded(nil0, a, a), apply(vr(3), a, a), 5},
		"of nil at other levels": {folded(app(con("List.nil", two, two), n)), vr(3), 5},
		"of cons":                {folded(cons), apply(f, a, nil0, folded(nil0)), 7},
		"of cons, and behind":    {folded(cons, num(1)), apply(f, a, nil0, folded(nil0), num(1)), 7},
		"of nil of another type": {folded(app(con("List.nil", zero), a)), vr(3), 5},
	} {
		becomes(t, what, e, c.x, c.want, c.steps)
	}
}

// A field of a structure's constructor, that is at hand.
func TestStepOfAProjection(t *testing.T) {
	e := basis(t)
	for what, c := range map[string]struct {
		x, want api.Term
		steps   int
	}{
		"the first":              {prj("Pair", 0, mk(a, vr(1))), a, 1},
		"the second":             {prj("Pair", 1, mk(a, vr(1))), vr(1), 1},
		"applied":                {app(prj("Pair", 1, mk(a, f)), num(1)), app(f, num(1)), 1},
		"applied to three":       {apply(prj("Pair", 0, mk(vr(0), f)), num(1), a, vr(2)), apply(vr(0), num(1), a, vr(2)), 1},
		"a step behind":          {prj("Pair", 0, mk(con("one"), a)), num(1), 2},
		"a lambda, applied":      {app(prj("Pair", 1, mk(a, lam(n, app(f, vr(0))))), vr(2)), app(f, vr(2)), 2},
		"one in one":             {prj("Pair", 1, prj("Pair", 0, mk(mk(a, vr(3)), a))), vr(3), 2},
		"one in one in one":      {prj("Pair", 0, prj("Pair", 0, prj("Pair", 0, mk(mk(mk(vr(8), a), a), a)))), vr(8), 3},
		"at other levels":        {prj("Pair", 1, apply(con("Pair.mk"), n, n, a, vr(1))), vr(1), 1},
		"at too many levels":     {prj("Pair", 1, apply(con("Pair.mk", two, two, two), n, n, a, vr(1))), vr(1), 1},
		"one behind another one": {apply(prj("Pair", 0, mk(prj("Pair", 1, mk(a, f)), a)), a), app(f, a), 2},
	} {
		becomes(t, what, e, c.x, c.want, c.steps)
	}
}
