package sample

import (
	"strconv"

	"batten/api"
)

// Forms: normal forms of all kinds. Some are of what Strangers are.
func Forms() map[string]api.Term {
	n, a, f, p := Const("N"), Const("a"), Const("f"), Const("p")
	unary, recN := Pi(n, n), Const("N.rec", Zero)
	stuck := Apply(recN, n, n, n, a)
	return map[string]api.Term{
		"a sort":                     Sort(Great),
		"a sort, applied":            App(Sort(Two), a),
		"a variable":                 Var(0),
		"the farthest one":           Var(Far),
		"a variable, applied":        Apply(Var(3), Var(0), a),
		"a lambda":                   Lam(n, Var(0)),
		"a lambda of a lambda":       Lam(n, Lam(n, App(Var(0), Var(1)))),
		"functions":                  unary,
		"functions, applied":         Apply(Pi(n, Var(0)), a, a),
		"functions of Var 0":         Pi(n, App(f, Var(0))),
		"an axiom":                   a,
		"an axiom, applied":          Apply(f, a, Var(0)),
		"a theorem":                  Const("th"),
		"a theorem, applied":         App(Const("th"), a),
		"a type with a Value":        Const("Plain"),
		"a name that is none":        App(Const("none", Two), a),
		"one at a level":             App(Const("one", Zero), a),
		"swap at one":                Const("swap", Two),
		"a number":                   Num(5),
		"a pair":                     Mk(a, Var(0)),
		"the axiom of pairs":         p,
		"a field of it":              First(p),
		"a field, applied":           Apply(Second(p), a, Var(1)),
		"a field of a variable":      Proj("Pair", 7, Var(3)),
		"a field of no structure":    Proj("N", 0, Num(1)),
		"a recursor":                 recN,
		"a recursor of three":        Apply(recN, n, n, n),
		"a recursor that is stuck":   stuck,
		"that, applied":              Apply(stuck, a, Var(0)),
		"that, within":               Apply(recN, stuck, stuck, stuck, First(stuck)),
		"a lambda of what is stuck":  Lam(stuck, Lam(stuck, Apply(recN, n, n, n, Var(1)))),
		"a list":                     Apply(Const("List.cons", Zero), n, a, App(Const("List.nil", Zero), n)),
		"a recursor, of lists":       Apply(Const("List.rec", Zero, Zero), n, n, n, n, Var(0)),
		"a recursor, without levels": Apply(Const("N.rec"), n, n, n, Num(1)),
	}
}

// Unformed: terms that have steps in all ways.
func Unformed() map[string]Formed {
	n, a, f := Const("N"), Const("a"), Const("f")
	return map[string]Formed{
		"a lambda":              {App(Lam(n, App(f, Var(0))), a), App(f, a), 1},
		"a let":                 {Let(n, a, Apply(f, Var(0), Var(1))), Apply(f, a, Var(0)), 1},
		"a definition":          {Const("one"), Num(1), 1},
		"id":                    {Id(Var(4)), Var(4), 3},
		"a recursor":            {Count(Num(2)), Num(2), 7 + 7 + 4},
		"a projection":          {Second(Mk(a, f)), f, 1},
		"a sum":                 {Add(Num(1), Num(1)), Num(2), 14},
		"one within another":    {App(Lam(n, App(f, Const("one"))), a), App(f, Num(1)), 2},
		"two, beside another":   {Apply(f, Const("one"), Id(a)), Apply(f, Num(1), a), 4},
		"one in a lambda":       {Lam(Const("one"), Const("one")), Lam(Num(1), Num(1)), 2},
		"a lambda that is left": {App(Lam(n, Lam(n, Var(1))), Var(2)), Lam(n, Var(3)), 1},
	}
}

// Places in which a term may stand in a normal form, so that nothing else is put into its form. Lifted puts a term one binder further in.
func Places(lifted func(x api.Term) api.Term) map[string]func(x api.Term) api.Term {
	n, a, f, p := Const("N"), Const("a"), Const("f"), Const("p")
	unary, recN := Pi(n, n), Const("N.rec", Zero)
	return map[string]func(x api.Term) api.Term{
		"what f is of":               func(x api.Term) api.Term { return App(f, x) },
		"the first of three":         func(x api.Term) api.Term { return Apply(f, x, a, Var(0)) },
		"the second of three":        func(x api.Term) api.Term { return Apply(Var(1), a, x, Var(0)) },
		"the third of three":         func(x api.Term) api.Term { return Apply(Const("none"), a, Var(0), x) },
		"what a sort is of":          func(x api.Term) api.Term { return App(Sort(Zero), x) },
		"a lambda's domain":          func(x api.Term) api.Term { return Lam(x, a) },
		"a lambda's body":            func(x api.Term) api.Term { return Lam(n, lifted(x)) },
		"a Pi's domain":              func(x api.Term) api.Term { return Pi(x, a) },
		"a Pi's body":                func(x api.Term) api.Term { return Pi(n, lifted(x)) },
		"an applied Pi's domain":     func(x api.Term) api.Term { return Apply(Pi(x, n), a, a) },
		"an applied Pi's body":       func(x api.Term) api.Term { return App(Pi(n, lifted(x)), a) },
		"what a Pi is of":            func(x api.Term) api.Term { return Apply(unary, a, x) },
		"what a Proj is of":          func(x api.Term) api.Term { return Proj("Pair", 0, App(f, x)) },
		"what an applied Proj is of": func(x api.Term) api.Term { return Apply(Proj("N", 1, App(f, x)), a, a) },
		"what a Proj is applied to":  func(x api.Term) api.Term { return Apply(First(p), a, x) },
		"a motive":                   func(x api.Term) api.Term { return Apply(recN, x, n, n, a) },
		"a minor":                    func(x api.Term) api.Term { return Apply(recN, n, n, x, a) },
		"within the major one":       func(x api.Term) api.Term { return Apply(recN, n, n, n, App(f, x)) },
		"behind the major one":       func(x api.Term) api.Term { return Apply(recN, n, n, n, a, a, x) },
		"of a recursor of too few":   func(x api.Term) api.Term { return Apply(recN, n, n, x) },
		"one more than it":           func(x api.Term) api.Term { return Succ(x) },
		"a pair's type":              func(x api.Term) api.Term { return Apply(Const("Pair.mk", Zero, Zero), x, n, a, a) },
		"in a pair":                  func(x api.Term) api.Term { return Mk(a, x) },
		"deep within":                func(x api.Term) api.Term { return Lam(n, Pi(n, App(f, Proj("P", 0, App(f, lifted(lifted(x))))))) },
	}
}

// Sums: what is reckoned with all that the sample has.
func Sums() map[string]Formed {
	n, a, f, p := Const("N"), Const("a"), Const("f"), Const("p")
	recN := Const("N.rec", Zero)
	stuck := Apply(recN, Lam(n, n), a, Lam(n, Const("N.succ")), a) // add of a and a
	return map[string]Formed{
		"one":                       {Const("one"), Num(1), 1},
		"a":                         {a, a, 0},
		"f of one":                  {App(f, Const("one")), App(f, Num(1)), 1},
		"p":                         {p, p, 0},
		"add of 2":                  {App(Const("add"), Num(2)), Apply(recN, Lam(n, n), Num(2), Lam(n, Const("N.succ"))), 2},
		"add of 2 and 0":            {Add(Num(2), Num(0)), Num(2), 7},
		"add of a and 0":            {Add(a, Num(0)), a, 7},
		"add of a and a":            {Add(a, a), stuck, 3},
		"add of a, and 2":           {Add(a, Num(2)), Succ(Succ(a)), 3 + 7 + 7 + 4},
		"double of a":               {App(Const("double"), a), stuck, 5},
		"double of 1":               {App(Const("double"), Num(1)), Num(2), 16},
		"double":                    {Const("double"), Lam(n, Apply(recN, Lam(n, n), Var(0), Lam(n, Const("N.succ")), Var(0))), 1 + 3},
		"id":                        {Const("id", Zero), Lam(Sort(Zero), Lam(Var(0), Var(0))), 1},
		"swap of p":                 {Swap(p), Mk(Second(p), First(p)), 4},
		"swap of a pair":            {Swap(Mk(a, Const("one"))), Mk(Num(1), a), 4 + 1 + 1 + 1},
		"swap of a swap":            {Swap(Swap(Mk(a, Num(3)))), Mk(a, Num(3)), 4 + 2*(1+4+1)},
		"the first of a swap of p":  {First(Swap(p)), Second(p), 5},
		"a pair of fields of swaps": {Mk(First(Swap(p)), Second(Swap(p))), Mk(Second(p), First(p)), 10},
		"p, by its swap's fields":   {Mk(Second(Swap(p)), First(Swap(p))), p, 10},
		"the sum of nothing":        {Sum(List()), Num(0), 5},
		"nil":                       {List(), List(), 0},
		"a list":                    {List(Const("one"), a, Add(Num(1), Num(1))), List(Num(1), a, Num(2)), 1 + 14},
	}
}

// Reckonings: terms that are numbers, and which.
func Reckonings() map[string]struct {
	X    api.Term
	Want int
} {
	type reckoning = struct {
		X    api.Term
		Want int
	}
	n, couple := Const("N"), PairOf(Const("N"), Const("N"))
	next := Lam(n, Lam(couple, Mk(Second(Var(0)), Add(First(Var(0)), Second(Var(0))))))
	all := map[string]reckoning{
		"a power":                              {Power(7), 128},
		"a sum of it":                          {Add(Power(5), Power(3)), 40},
		"a recursor that asks for another one": {First(Apply(Const("N.rec", Zero), Lam(n, couple), Mk(Num(0), Num(1)), next, Num(7))), 13},
		"an odd one":                           {Odd(Num(7)), 1},
		"an even one":                          {Odd(Power(5)), 0},
		"none is odd":                          {Odd(Num(0)), 0},
		"the sum of 0":                         {Sum(List()), 0},
	}
	for i := range 6 {
		for j := range 6 {
			of := strconv.Itoa(i) + " and " + strconv.Itoa(j)
			times := Apply(Const("N.rec", Zero), Lam(n, n), Num(0), Lam(n, App(Const("add"), Num(i))), Num(j))
			all["the sum of "+of] = reckoning{Add(Num(i), Num(j)), i + j}
			all["the product of "+of] = reckoning{times, i * j}
			all["the sum of a list, "+of] = reckoning{Sum(List(Num(i), Const("one"), Num(j))), i + j + 1}
		}
	}
	return all
}
