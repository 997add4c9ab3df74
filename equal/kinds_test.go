package equal

import (
	"testing"

	"batten/api"
	"batten/sample"
	"batten/term"
)

// P13.1: each kind of term against itself, and against each other kind.

// oneOfEach: two of each kind of term, and of what each may be applied to, with free variables.
func oneOfEach() map[string][2]api.Term {
	return map[string][2]api.Term{
		"sorts":                 {srt(zero), srt(two)},
		"variables":             {vr(0), vr(1)},
		"axioms":                {a, f},
		"types":                 {n, con("List", zero)},
		"constructors":          {con("N.zero"), con("N.succ")},
		"recursors":             {recN, con("List.rec", zero, zero)},
		"definitions":           {con("one"), con("double")},
		"theorems, or none":     {con("th"), con("none")},
		"lambdas":               {lam(n, vr(0)), lam(n, vr(1))},
		"lambdas of two":        {lam(n, lam(n, vr(0))), lam(n, lam(n, vr(1)))},
		"functions":             {pi(n, n), pi(n, vr(0))},
		"functions from others": {pi(unary, n), pi(a, n)},
		"lets":                  {let(n, num(1), succ(vr(0))), let(n, num(2), succ(vr(0)))},
		"projections":           {first(p), second(p)},
		"projections of others": {first(vr(0)), prj("Other", 0, vr(0))},
		"what f is of":          {app(f, a), app(f, num(0))},
		"variables, applied":    {app(vr(0), a), app(vr(1), a)},
		"applied to more":       {apply(vr(0), a, n), apply(vr(0), a, a)},
		"sorts, applied":        {app(srt(zero), a), app(srt(two), a)},
		"functions, applied":    {app(pi(n, n), a), app(pi(n, vr(0)), a)},
		"lambdas, applied":      {app(lam(n, succ(vr(0))), num(3)), app(lam(n, succ(vr(0))), num(4))},
		"projections, applied":  {app(first(p), a), app(second(p), a)},
		"what is stuck":         {count(vr(0)), count(a)},
		"what is stuck, more":   {app(count(a), a), app(count(a), n)},
		"pairs":                 {mk(a, num(1)), mk(a, num(2))},
		"parts of pairs":        {apply(con("Pair.mk", zero, zero), n, n, a), apply(con("Pair.mk", zero, zero), n, n)},
		"lists":                 {row(a), row(a, a)},
	}
}

func TestEachKind(t *testing.T) {
	e := basis(t, sample.Strangers()...)
	all := oneOfEach()
	for what, x := range all {
		other(t, what, e, x[0], x[1])
		for i, one := range x {
			same(t, what, e, one, one)
			same(t, what+", another tree", e, one, sample.Clone(one))
			for of, y := range all {
				for j, two := range y {
					if what != of || i != j {
						other(t, what+" and "+of, e, one, two)
					}
				}
			}
		}
	}
}

// Wherever they stand in something else: one in the place of itself, and of another one.
func TestEachKindInAllPlaces(t *testing.T) {
	e := basis(t, sample.Strangers()...)
	for what, x := range oneOfEach() {
		for where, in := range sample.Places(lifted) {
			same(t, what+": "+where, e, in(x[0]), in(x[0]))
			other(t, what+": "+where, e, in(x[0]), in(x[1]))
		}
	}
}

// One that is come to by steps, each kind of them, is like itself, and like nothing else.
func TestEachWay(t *testing.T) {
	e := basis(t, sample.Strangers()...)
	for what, x := range oneOfEach() {
		for by, c := range sample.Ways(x[0], lifted) {
			same(t, what+", by "+by, e, c.X, x[0])
			other(t, what+", by "+by, e, c.X, x[1])
		}
	}
	for _, x := range []api.Term{a, num(2), mk(vr(0), a), lam(n, app(vr(0), vr(2))), pi(n, vr(1))} {
		ways, places := sample.Ways(x, lifted), sample.Places(lifted)
		for by, c := range ways {
			for with, d := range ways {
				same(t, by+", and by "+with, e, c.X, d.X)
			}
			for where, in := range places {
				same(t, where+", by "+by, e, in(c.X), in(x))
				other(t, where+", by "+by, e, in(c.X), in(con("other")))
			}
		}
	}
}

// Lists of terms, each two of them as normal says.

func TestKin(t *testing.T) {
	e := basis(t, sample.Strangers()...)
	for i, l := range sample.Kin() {
		for _, x := range l {
			for j, m := range sample.Kin() {
				for _, y := range m {
					holds(t, "kin", e, x.X, y.X, told(i == j))
				}
			}
		}
	}
}

func TestTheKindsOfForms(t *testing.T) {
	e := basis(t, sample.Strangers()...)
	var l []api.Term
	for _, x := range sample.Forms() {
		l = append(l, x)
	}
	for _, c := range sample.Unformed() {
		l = append(l, c.X, c.Want)
	}
	each(t, "forms", e, formsOf(e, 100, l...), 7)
	for where, in := range sample.Places(lifted) {
		var placed []api.Term
		for _, x := range l {
			if term.May(in(x)) {
				placed = append(placed, in(x))
			}
		}
		each(t, where, e, formsOf(e, 100, placed...), 97)
	}
}

// All names of the sample, at any number of levels, of any number of arguments, and other heads so.
func TestTheNamesOfTheSample(t *testing.T) {
	e := basis(t)
	l := sample.Rows()
	for i, x := range l {
		others := []api.Term{x, l[max(0, i-1)], l[max(0, i-29)], paired(x), lam(n, app(lifted(x), vr(0)))}
		obeyed(t, e, x, others[i%5], 80)
		obeyed(t, e, x, others[i*2%5], 80)
	}
}

// Small terms of all kinds, each with some others, and with what it is by eta.
func TestSmallTerms(t *testing.T) {
	e := filled(t, sample.SmallInfos()...)
	l := sample.Some(11)
	for i, x := range l {
		for _, y := range l[max(0, i-12) : i+1] {
			obeyed(t, e, x, y, 25)
		}
		obeyed(t, e, app(con("B.b'"), prj("P", 0, x)), x, 25)
		obeyed(t, e, lam(n, app(lifted(x), vr(0))), x, 25)
		obeyed(t, e, app(con("B", two), app(con("A"), x)), x, 25)
	}
	each(t, "small terms", e, formsOf(e, 25, sample.Some(43)...), 29)
}
