package equal

import (
	"testing"

	"batten/api"
	"batten/sample"
)

// P13.1: the sample of the rules, and the chapter's example over it.

func TestTheExample(t *testing.T) {
	if k := holds(t, "f", basis(t), f, lam(n, app(f, vr(0))), api.Alike); k > 0 {
		t.Errorf("%d steps", k)
	}
}

// What is reckoned is like its form, and unlike other ones; below binders, too.
func TestTheSample(t *testing.T) {
	e := basis(t)
	all := sample.Sums()
	var l, below []api.Term
	for what, c := range all {
		same(t, what, e, c.X, c.Want)
		same(t, what+", twice", e, c.X, c.X)
		same(t, what+", below a lambda", e, lam(couple, apply(vr(1), lifted(c.X), vr(0), vr(0))), lam(couple, apply(vr(1), lifted(c.Want), vr(0), vr(0))))
		same(t, what+", in functions", e, pi(app(f, c.X), lifted(c.Want)), pi(app(f, c.Want), lifted(c.X)))
		other(t, what+", with another", e, apply(f, c.X, c.X), apply(f, c.Want, con("other")))
		l = append(l, c.X, c.Want)
		below = append(below, lam(n, pi(n, app(vr(1), lifted(lifted(c.X))))))
	}
	each(t, "sums", e, formsOf(e, 200, append(l, below...)...), 3)
}

// Sums, products, lists and powers of numbers: each with all numbers about it.
func TestTheSampleReckons(t *testing.T) {
	e := basis(t)
	all := sample.Reckonings()
	for what, c := range all {
		same(t, what, e, c.X, num(c.Want))
		other(t, what+", one more", e, c.X, num(c.Want+1))
		other(t, what+", and one more than that", e, succ(c.X), num(c.Want))
		other(t, what+", and a", e, add(a, c.X), num(c.Want))
	}
	for i := range 5 {
		for j := range 5 {
			for k := max(0, i+j-1); k < i+j+2; k++ {
				holds(t, "a sum", e, add(num(i), num(j)), num(k), told(i+j == k))
				holds(t, "sums", e, add(num(i), num(j)), add(num(j), num(i)), api.Alike)
				holds(t, "a sum, of a", e, add(add(a, num(i)), num(j)), add(a, num(k)), told(i+j == k))
				holds(t, "lists", e, row(add(num(i), num(j)), a), row(num(k), a), told(i+j == k))
			}
		}
	}
}

// Functions of the sample, with free variables, and below lambdas: what is stuck is alike where it is the same.
func TestTheSampleOfVariables(t *testing.T) {
	e := basis(t)
	cons := func(x, y api.Term) api.Term { return apply(con("List.cons", zero), n, x, y) }
	for what, c := range map[string]struct {
		x, y api.Term
		want api.Verdict
	}{
		"a sum":                        {add(vr(2), vr(5)), add(vr(2), vr(5)), api.Alike},
		"a sum, the other way round":   {add(vr(2), vr(5)), add(vr(5), vr(2)), api.Unlike},
		"one more on the right":        {add(vr(2), succ(vr(5))), succ(add(vr(2), vr(5))), api.Alike},
		"one more on the left":         {add(succ(vr(2)), vr(5)), succ(add(vr(2), vr(5))), api.Unlike},
		"none on the right":            {add(vr(0), num(0)), vr(0), api.Alike},
		"none on the left":             {add(num(0), vr(0)), vr(0), api.Unlike},
		"a sum of sums":                {add(add(vr(0), vr(1)), add(vr(1), num(1))), succ(add(add(vr(0), vr(1)), vr(1))), api.Alike},
		"double":                       {app(con("double"), vr(3)), add(vr(3), vr(3)), api.Alike},
		"double, and double of more":   {app(con("double"), succ(vr(3))), succ(add(succ(vr(3)), vr(3))), api.Alike},
		"double, and another double":   {app(con("double"), vr(3)), app(con("double"), vr(4)), api.Unlike},
		"double as a function":         {con("double"), lam(n, add(vr(0), vr(0))), api.Alike},
		"add as a function":            {con("add"), lam(n, lam(n, add(vr(1), vr(0)))), api.Alike},
		"add, the other way round":     {con("add"), lam(n, lam(n, add(vr(0), vr(1)))), api.Unlike},
		"add of one":                   {app(con("add"), vr(0)), lam(n, add(vr(1), vr(0))), api.Alike},
		"one more as a function":       {lam(n, add(vr(0), num(1))), con("N.succ"), api.Alike},
		"two more as a function":       {lam(n, add(vr(0), num(2))), lam(n, succ(succ(vr(0)))), api.Alike},
		"a function of two":            {lam(n, lam(n, add(vr(0), vr(1)))), lam(n, lam(n, add(vr(1), vr(0)))), api.Unlike},
		"a pair, swapped twice":        {lam(couple, swap(swap(vr(0)))), lam(couple, vr(0)), api.Alike},
		"a pair, swapped":              {lam(couple, swap(vr(0))), lam(couple, vr(0)), api.Unlike},
		"a pair, swapped by hand":      {lam(couple, swap(vr(0))), lam(couple, mk(second(vr(0)), first(vr(0)))), api.Alike},
		"swap as a function":           {apply(con("swap", zero, zero), n, n), lam(couple, swap(vr(0))), api.Alike},
		"a field of a swap":            {second(swap(vr(0))), first(vr(0)), api.Alike},
		"a field of a swap, the other": {first(swap(vr(0))), first(vr(0)), api.Unlike},
		"a structure's recursor":       {apply(con("Pair.rec", zero, zero, zero), n, n, n, vr(3), vr(1)), apply(vr(3), first(vr(1)), second(vr(1))), api.Alike},
		"id":                           {apply(con("id", zero), n, vr(0)), vr(0), api.Alike},
		"id of a type":                 {app(con("id", zero), n), lam(n, vr(0)), api.Alike},
		"id, of a function":            {lam(n, apply(con("id", zero), unary, f, vr(0))), f, api.Alike},
		"ids of two types":             {apply(con("id", zero), n, vr(0)), apply(con("id", zero), unary, vr(0)), api.Alike},
		"lists":                        {cons(add(vr(0), num(1)), vr(4)), cons(succ(vr(0)), vr(4)), api.Alike},
		"lists with other ends":        {cons(vr(0), vr(4)), cons(vr(0), vr(3)), api.Unlike},
		"lists with more":              {cons(vr(0), vr(4)), cons(vr(0), cons(vr(0), vr(4))), api.Unlike},
		"the sum of a list":            {sum(cons(num(0), vr(4))), sum(vr(4)), api.Alike},
		"the sum of one more":          {sum(cons(num(1), vr(4))), sum(vr(4)), api.Unlike},
		"the sum of more":              {sum(cons(succ(vr(0)), row())), succ(add(num(0), vr(0))), api.Alike},
		"sums of lists":                {sum(cons(vr(1), vr(4))), add(sum(vr(4)), vr(1)), api.Alike},
		"types of lists":               {sample.ListOf(app(con("id", zero), n)), sample.ListOf(n), api.Unlike},
		"types of lists, by id":        {sample.ListOf(apply(con("id", two), srt(zero), n)), sample.ListOf(n), api.Alike},
		"types of pairs":               {sample.PairOf(n, unary), sample.PairOf(n, pi(n, id(n))), api.Alike},
		"types of other pairs":         {sample.PairOf(n, unary), sample.PairOf(unary, n), api.Unlike},
		"types of functions":           {pi(srt(zero), pi(vr(0), vr(1))), pi(srt(zero), pi(vr(0), apply(con("id", two), srt(zero), vr(1)))), api.Alike},
		"types of other functions":     {pi(srt(zero), pi(vr(0), vr(1))), pi(srt(two), pi(vr(0), vr(1))), api.Unlike},
		"a recursor to functions":      {apply(recN, lam(n, unary), f, lam(n, lam(unary, lam(n, app(vr(1), app(vr(1), vr(0)))))), num(1)), lam(n, app(f, app(f, vr(0)))), api.Alike},
		"recursors, of other minors":   {apply(recN, lam(n, n), vr(0), con("add"), vr(1)), apply(recN, lam(n, n), vr(0), lam(n, lam(n, add(vr(1), vr(0)))), vr(1)), api.Alike},
		"recursors, of other motives":  {apply(recN, lam(n, n), vr(0), con("add"), vr(1)), apply(recN, lam(n, id(n)), vr(0), con("add"), vr(1)), api.Alike},
	} {
		holds(t, what, e, c.x, c.y, c.want)
		in := func(x api.Term) api.Term { return lam(n, pi(couple, apply(vr(4), lifted(lifted(x)), vr(1)))) }
		holds(t, what+", below binders", e, in(c.x), in(c.y), c.want)
		given := func(x api.Term) api.Term { return app(lam(n, lifted(x)), a) }
		holds(t, what+", within a lambda", e, given(c.x), c.y, c.want)
	}
}

// Free variables stand for themselves, and bound ones for what binds them, whatever is put where.
func TestVariables(t *testing.T) {
	e := basis(t)
	for i := range 4 {
		for j := range 4 {
			want := told(i == j)
			holds(t, "free", e, vr(i), vr(j), want)
			holds(t, "free, applied", e, app(vr(i), a), app(vr(j), a), want)
			holds(t, "below a lambda", e, lam(n, vr(i)), lam(n, vr(j)), want)
			holds(t, "below two", e, lam(n, pi(n, app(vr(i), a))), lam(n, pi(n, app(vr(j), a))), want)
			holds(t, "below three", e, lam(n, lam(n, lam(n, apply(vr(i), vr(1), a)))), lam(n, lam(n, lam(n, apply(vr(j), vr(1), a)))), want)
			holds(t, "put below", e, app(lam(n, lam(n, app(vr(0), vr(1)))), vr(i)), lam(n, app(vr(0), vr(j+1))), want)
			holds(t, "put below two", e, lam(n, app(lam(n, lam(n, app(vr(1), vr(0)))), vr(i))), lam(n, lam(n, app(vr(j+1), vr(0)))), want)
			holds(t, "let below", e, let(n, vr(i), pi(n, vr(1))), pi(n, vr(j+1)), want)
			holds(t, "by a lambda", e, vr(i), lam(n, app(vr(j+1), vr(0))), want)
			holds(t, "by lambdas", e, lam(n, app(vr(i+1), vr(0))), lam(n, app(vr(j+1), vr(0))), want)
			holds(t, "a lambda's own", e, lam(n, vr(i)), lam(n, apply(con("id", zero), n, vr(j))), want)
			holds(t, "a pair of its own", e, lam(couple, paired(vr(i))), lam(couple, vr(j)), want)
		}
	}
	far := sample.Far
	same(t, "the farthest", e, vr(far), let(n, vr(far), vr(0)))
	other(t, "the farthest but one", e, vr(far), vr(far-1))
	same(t, "the farthest, below", e, lam(n, app(vr(far), vr(0))), vr(far-1))
	other(t, "the farthest, and a lambda", e, vr(far), lam(n, app(vr(far), vr(0))))
}
