package equal

import (
	"testing"

	"batten/api"
	"batten/sample"
)

// P13.1: a function and a lambda of what it does, a pair and the pair of what it has (eta).

// inPlaces: are two alike, or unlike, either way round, by themselves, below binders, in domains, in arguments?
func inPlaces(t *testing.T, what string, x, y api.Term, want api.Verdict) {
	t.Helper()
	e := basis(t, sample.Strangers()...)
	holds(t, what, e, x, y, want)
	for where, in := range sample.Places(lifted) {
		holds(t, what+": "+where, e, in(x), in(y), want)
	}
}

// Functions, and what is them by a lambda.
func TestAFunctionAndALambda(t *testing.T) {
	rec := func(l ...api.Term) api.Term { return apply(recN, l...) }
	of := func(x api.Term, l ...api.Term) api.Term { return lam(n, app(apply(lifted(x), l...), vr(0))) }
	for what, g := range map[string]api.Term{
		"f":                         f,
		"a variable":                vr(3),
		"a variable, applied":       apply(vr(0), a, vr(1)),
		"a constructor":             con("N.succ"),
		"a pair's, of one":          apply(con("Pair.mk", zero, zero), n, n, a),
		"a pair's, of none":         apply(con("Pair.mk", zero, zero), n, n),
		"a recursor":                rec(lam(n, n), vr(0), lam(n, con("N.succ"))),
		"a recursor of functions":   rec(lam(n, unary), f, lam(n, lam(unary, vr(0))), vr(2)),
		"a field":                   first(vr(4)),
		"a list's":                  apply(con("List.cons", zero), n, a),
		"a definition":              con("double"),
		"a definition, applied":     app(con("add"), vr(0)),
		"by a step":                 let(n, a, app(con("add"), vr(0))),
		"by a lambda":               app(lam(n, lam(n, vr(1))), vr(2)),
		"by id":                     apply(con("id", zero), unary, f),
		"a type":                    con("List", zero),
		"a lambda that does more":   lam(n, apply(f, vr(0), vr(0))),
		"one without its variable":  lam(n, vr(1)),
		"one that is dropped":       lam(n, lam(n, vr(1))),
		"one that looks at it":      lam(n, count(vr(0))),
		"a field of what is stuck":  first(rec(lam(n, couple), p, n, vr(0))),
		"a recursor that is half":   rec(lam(n, n)),
		"a lambda of the recursor":  lam(n, rec(lam(n, n), vr(0), lam(n, con("N.succ")), vr(0))),
		"a variable far out":        vr(sample.Far - 9),
		"what f is of, by a lambda": app(f, lam(n, app(vr(1), vr(0)))),
	} {
		inPlaces(t, what, g, of(g), api.Alike)
		inPlaces(t, what+", twice", g, of(of(g)), api.Alike)
		inPlaces(t, what+", by id of its variable", g, lam(n, app(lifted(g), id(vr(0)))), api.Alike)
		inPlaces(t, what+", by itself below a lambda", g, app(lam(unary, lam(n, app(vr(1), vr(0)))), g), api.Alike)
		inPlaces(t, what+", of something else", g, lam(n, app(lifted(g), a)), told(what == "one without its variable" || what == "by a lambda"))
		inPlaces(t, what+", and another", of(con("other")), g, api.Unlike)
	}
	two := lam(n, lam(n, apply(f, vr(1), vr(0))))
	inPlaces(t, "of two", two, f, api.Alike)
	inPlaces(t, "of two, the one alone", two, lam(n, app(f, vr(0))), api.Alike)
	inPlaces(t, "of two, the wrong way round", lam(n, lam(n, apply(f, vr(0), vr(1)))), f, api.Unlike)
	inPlaces(t, "of three, and two", lam(n, lam(n, lam(n, apply(f, vr(2), vr(1), vr(0))))), two, api.Alike)
	inPlaces(t, "another variable of the same place", lam(n, app(vr(1), vr(0))), vr(1), api.Unlike)
	inPlaces(t, "with its own variable", lam(n, app(vr(0), vr(0))), vr(0), api.Unlike)
}

// Pairs, and what is them by a constructor.
func TestAPairAndItsFields(t *testing.T) {
	for what, x := range map[string]api.Term{
		"p":                   p,
		"a variable":          vr(3),
		"a variable, applied": apply(vr(0), a, vr(1)),
		"a field":             second(vr(2)),
		"what is stuck":       apply(recN, lam(n, couple), p, n, vr(0)),
		"by a step":           apply(con("id", zero), couple, p),
		"by a lambda":         app(lam(n, p), a),
		"by two swaps":        swap(swap(vr(1))),
		"a swap":              swap(p),
		"a pair":              mk(a, num(2)),
		"a pair of pairs":     mk(p, mk(a, a)),
		"a pair of functions": mk(f, lam(n, vr(0))),
		"its own fields":      paired(paired(vr(0))),
		"of what is applied":  app(vr(0), lam(n, app(f, vr(0)))),
		"a variable far out":  vr(sample.Far - 9),
	} {
		inPlaces(t, what, x, paired(x), api.Alike)
		inPlaces(t, what+", twice", paired(paired(x)), x, api.Alike)
		inPlaces(t, what+", by its fields in other ways", mk(first(apply(con("id", zero), couple, x)), second(swap(swap(x)))), x, api.Alike)
		inPlaces(t, what+", by its recursor", apply(con("Pair.rec", zero, zero, zero), n, n, lam(couple, couple), lam(n, lam(n, mk(vr(1), vr(0)))), x), x, api.Alike)
		inPlaces(t, what+", the fields as functions", mk(lam(n, app(first(lifted(x)), vr(0))), lam(n, app(second(lifted(x)), vr(0)))), paired(x), api.Alike)
		inPlaces(t, what+", the wrong way round", mk(second(x), first(x)), swap(x), api.Alike)
		inPlaces(t, what+", a field of another", mk(first(x), first(con("other"))), x, api.Unlike)
		inPlaces(t, what+", the other field of another", mk(second(con("other")), second(x)), x, api.Unlike)
		inPlaces(t, what+", and a field of it", x, mk(a, second(x)), told(what == "a pair"))
	}
	inPlaces(t, "the first one twice", mk(first(p), first(p)), p, api.Unlike)
	inPlaces(t, "of two things", mk(first(vr(0)), second(vr(1))), vr(0), api.Unlike)
	inPlaces(t, "of another structure", mk(prj("Other", 0, p), prj("Other", 1, p)), p, api.Unlike)
	inPlaces(t, "another one's", apply(con("Other.mk"), prj("Other", 0, p), prj("Other", 1, p)), p, api.Alike)
	inPlaces(t, "another one's, of its fields", apply(con("Other.mk"), first(p), second(p)), p, api.Unlike)
	inPlaces(t, "of no structure", apply(con("Plain.mk"), prj("Plain", 0, p), prj("Plain", 1, p)), p, api.Unlike)
	inPlaces(t, "too few", apply(con("Pair.mk", zero, zero), n, n, first(p)), p, api.Unlike)
}

// Both, the one within the other: fields that are functions, functions to pairs.
func TestFunctionsOfPairs(t *testing.T) {
	to := lam(n, paired(app(vr(1), vr(0)))) // a function to pairs, by its fields
	for what, c := range map[string][2]api.Term{
		"a function to pairs":                 {to, vr(0)},
		"that, applied":                       {app(lam(n, lifted(to)), a), vr(0)},
		"of its pairs' fields":                {lam(n, paired(app(vr(4), vr(0)))), lam(n, app(vr(4), vr(0)))},
		"a function of two, to pairs":         {lam(n, lam(n, paired(apply(vr(2), vr(1), vr(0))))), lam(n, app(vr(1), vr(0)))},
		"a function from pairs":               {lam(couple, app(f, paired(vr(0)))), f},
		"from functions":                      {lam(unary, app(f, lam(n, app(vr(1), vr(0))))), f},
		"a pair of functions":                 {mk(lam(n, app(first(vr(1)), vr(0))), lam(n, app(second(vr(1)), vr(0)))), vr(0)},
		"a pair of functions to pairs":        {mk(lam(n, paired(app(first(vr(1)), vr(0)))), second(vr(0))), vr(0)},
		"pairs of pairs":                      {mk(paired(first(vr(0))), paired(second(vr(0)))), vr(0)},
		"pairs of pairs, but for one":         {mk(paired(first(vr(0))), mk(first(second(vr(0))), second(second(vr(0))))), paired(vr(0))},
		"a function that is given twice":      {lam(n, apply(vr(1), lam(n, app(f, vr(0))), vr(0))), app(vr(0), f)},
		"in the middle of what it is of":      {apply(vr(0), paired(p), lam(n, app(f, vr(0))), a), apply(vr(0), p, f, a)},
		"in a recursor's major argument":      {apply(recN, n, n, n, paired(p), a), apply(recN, n, n, n, p, a)},
		"in what a projection is of":          {prj("P", 1, app(f, paired(p))), prj("P", 1, app(f, p))},
		"in functions":                        {pi(paired(p), lam(n, app(f, vr(0)))), pi(p, f)},
		"a lambda of what looks at its field": {lam(couple, apply(con("Pair.rec", zero, zero, zero), n, n, n, lam(n, lam(n, mk(vr(1), vr(0)))), vr(0))), lam(couple, vr(0))},
	} {
		inPlaces(t, what, c[0], c[1], api.Alike)
		inPlaces(t, what+", lambdas of it", lam(n, lifted(c[0])), lam(n, lifted(c[1])), api.Alike)
		inPlaces(t, what+", and another", c[0], app(c[1], a), api.Unlike)
		inPlaces(t, what+", and another of it", app(f, app(c[0], a)), app(f, app(c[1], num(0))), api.Unlike)
	}
}

// What is contracted, and what is not, is like the same things as in normal, be it of a type or not.
func TestContracted(t *testing.T) {
	e := basis(t, sample.Strangers()...)
	var l []api.Term
	for what, c := range sample.Contracted() {
		same(t, what, e, c.X, c.Want)
		same(t, what+", within lambdas", e, lam(n, lifted(c.X)), lam(n, lifted(c.Want)))
		same(t, what+", in a domain", e, lam(app(f, c.X), vr(0)), lam(app(f, c.Want), vr(0)))
		same(t, what+", within functions", e, pi(app(f, c.X), lifted(c.X)), pi(app(f, c.Want), lifted(c.Want)))
		l = append(l, c.X, c.Want)
	}
	for _, c := range sample.Sums() {
		l = append(l, c.X, c.Want)
	}
	each(t, "contracted", e, formsOf(e, 200, l...), 29)
}

// Terms without a type, of which normal says what is lost: domains, types of pairs, and what is contracted behind a contraction.
func TestWhatIsLost(t *testing.T) {
	e := basis(t, sample.Strangers()...)
	of := func(d, x api.Term) api.Term { return lam(d, app(lifted(x), vr(0))) }
	typed := func(x, y, z api.Term) api.Term { return apply(con("Pair.mk", zero, zero), x, y, first(z), second(z)) }
	late := lam(n, app(paired(app(f, vr(0))), a))
	for what, c := range map[string]struct {
		x, y api.Term
		want api.Verdict
	}{
		"domains that are lost":             {of(n, f), of(a, f), api.Alike},
		"domains that are lost, below":      {lam(n, of(n, vr(0))), lam(n, of(pi(vr(0), n), vr(0))), api.Alike},
		"domains that stay":                 {lam(n, vr(0)), lam(a, vr(0)), api.Unlike},
		"domains of functions":              {pi(n, a), pi(a, a), api.Unlike},
		"domains in domains":                {lam(of(n, f), vr(0)), lam(of(a, f), vr(0)), api.Alike},
		"domains in domains that stay":      {lam(lam(n, a), vr(0)), lam(lam(a, a), vr(0)), api.Unlike},
		"one domain that is lost":           {lam(n, of(n, vr(0))), lam(a, of(n, vr(0))), api.Unlike},
		"types that are lost":               {typed(n, n, p), typed(a, n, p), api.Alike},
		"types that stay":                   {apply(con("Pair.mk", zero, zero), n, n, a, a), apply(con("Pair.mk", zero, zero), n, a, a, a), api.Unlike},
		"levels that are lost":              {paired(p), apply(con("Pair.mk", two, zero), n, n, first(p), second(p)), api.Alike},
		"levels that stay":                  {mk(a, a), apply(con("Pair.mk", two, zero), n, n, a, a), api.Unlike},
		"a pair behind a lambda":            {lam(n, app(paired(vr(1)), vr(0))), vr(0), api.Alike},
		"a pair behind lambdas":             {lam(n, app(paired(vr(1)), vr(0))), lam(n, app(vr(1), vr(0))), api.Alike},
		"a pair behind a lambda, and pairs": {lam(n, app(paired(p), vr(0))), paired(p), api.Alike},
		"a pair behind a lambda, of more":   {late, lam(n, apply(f, vr(0), a)), api.Unlike},
		"that, and itself":                  {late, late, api.Alike},
		"a lambda and a pair":               {lam(n, app(p, vr(0))), paired(p), api.Alike},
		"a lambda and a pair that stays":    {lam(n, vr(0)), mk(a, a), api.Unlike},
		"two constructors":                  {paired(p), apply(con("Other.mk"), prj("Other", 0, p), prj("Other", 1, p)), api.Alike},
		"the farthest variable":             {vr(sample.Far), lam(n, apply(con("Pair.mk", zero, zero), n, n, a, vr(0))), api.Unlike},
		"the farthest variable, and more":   {apply(f, vr(sample.Far), a), apply(f, lam(n, mk(vr(0), a)), a), api.Unlike},
	} {
		holds(t, what, e, c.x, c.y, c.want)
		for where, in := range sample.Places(lifted) {
			if where != "a lambda's domain" && where != "a pair's type" && what != "the farthest variable" && what != "the farthest variable, and more" {
				holds(t, what+": "+where, e, in(c.x), in(c.y), c.want)
			}
		}
	}
}
