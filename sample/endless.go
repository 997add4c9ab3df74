package sample

import (
	"slices"

	"batten/api"
)

// Self: what does to itself what the body does to the variable 0.
func Self(body api.Term) api.Term { return App(Lam(Const("N"), body), Lam(Const("N"), body)) }

// Loose: the info of "loose", a definition by which there are terms without an end.
func Loose() api.Info {
	return IsDef(1, "loose", Sort(Zero), Lam(Const("N"), App(Var(0), Var(0))))
}

// EndlessHeads: terms that go on without an end, one step or more each time, ahead of any weak head, or so that one is too great.
func EndlessHeads() map[string]api.Term {
	n, a, f, again := Const("N"), Const("a"), Const("f"), App(Var(0), Var(0))
	recN := Const("N.rec", Zero)
	return map[string]api.Term{
		"itself":                       Self(again),
		"in a let":                     Self(Let(n, Var(0), again)),
		"in a let of itself":           Self(Let(n, again, Var(0))),
		"of a definition":              Self(Apply(Const("id", Zero), n, again)),
		"within a recursor":            Self(Count(again)),
		"within a projection":          Self(First(again)),
		"within many":                  Self(First(Second(Count(First(Second(again)))))),
		"within both":                  Self(Second(Apply(recN, n, n, n, again))),
		"in what a field is":           Self(Second(Mk(n, again))),
		"in what a recursor becomes":   Self(Apply(recN, n, again, n, Num(0))),
		"what is longer each time":     Self(Apply(Var(0), Var(0), Apply(f, Const("one"), Var(0)))),
		"what is twice as great":       App(Self(Lam(n, Apply(Var(1), Var(1), Apply(f, Var(0), Var(0))))), n),
		"what is deeper":               App(Self(Lam(n, Apply(Var(1), Var(1), App(f, App(f, Var(0)))))), n),
		"what is deeper, and looks":    App(Self(Lam(n, Apply(Var(1), Var(1), Count(First(Var(0)))))), a),
		"what is deeper, by itself":    Self(App(Lam(n, App(Var(1), Var(1))), Var(0))),
		"by a loose definition":        App(Const("loose", Zero), Const("loose", Zero)),
		"by that, of a pair":           First(App(Const("loose", Zero), Lam(n, Mk(App(Var(0), Var(0)), First(App(Var(0), Var(0))))))),
		"a lambda within":              Self(Lam(n, Apply(Var(1), Var(1), Var(0)))),
		"three of itself":              App(Lam(n, Apply(Var(0), Var(0), Var(0))), Lam(n, Apply(Var(0), Var(0), Var(0)))),
		"a recursor at what has none":  Apply(Const("List.rec", Zero, Zero), n, n, n, n, Self(again)),
		"what is dropped has none too": App(Lam(n, Self(again)), Self(again)),
	}
}

// EndlessForms: terms that go on without an end when they are put into their forms.
func EndlessForms() map[string]api.Term {
	n, a, f, again := Const("N"), Const("a"), Const("f"), App(Var(0), Var(0))
	recN, p := Const("N.rec", Zero), Const("p")
	return map[string]api.Term{
		"itself":                    Self(again),
		"within f":                  App(f, Self(again)),
		"within a lambda":           Lam(n, Self(again)),
		"in f of it":                Self(App(f, again)),
		"in the second one":         Self(Apply(f, Num(1), again)),
		"in a lambda of it":         Self(Lam(n, App(Var(1), Var(1)))),
		"in a domain of it":         Self(Lam(again, n)),
		"in a domain that is lost":  Self(Lam(again, App(f, Var(0)))),
		"in a Pi":                   Self(Pi(again, n)),
		"in a Pi's body":            Self(Pi(n, App(Var(1), Var(1)))),
		"in a Proj":                 Self(Proj("Pair", 0, App(f, again))),
		"in a pair":                 Self(Mk(a, again)),
		"in a pair's first":         Self(Mk(again, a)),
		"in a pair's type":          Self(Apply(Const("Pair.mk", Zero, Zero), again, n, First(p), Second(p))),
		"in a pair of fields":       Self(Both(App(f, again))),
		"in a recursor":             Self(Apply(recN, n, again, n, a)),
		"in a major one":            Self(Apply(recN, n, n, n, App(f, again))),
		"in what is contracted":     Self(Lam(n, Apply(f, App(Var(1), Var(1)), Var(0)))),
		"in one more and one more":  Self(Succ(again)),
		"in a list":                 Self(Apply(Const("List.cons", Zero), n, a, again)),
		"in a lambda with a let":    Self(Lam(n, Let(n, Var(0), App(Var(2), Var(2))))),
		"in what is there twice":    Self(Apply(f, again, again)),
		"in a lambda of what it is": Self(Lam(n, App(f, App(Var(1), Var(1))))),
	}
}

// Growing: terms the forms of which would be too great, most of them without an end. They name an axiom "S", too.
func Growing() map[string]api.Term {
	n, a, f, again := Const("N"), Const("a"), Const("f"), App(Var(0), Var(0))
	recN := Const("N.rec", Zero)
	return map[string]api.Term{
		"in f":                        Self(App(f, again)),
		"in f, twice":                 Self(Apply(f, again, again)),
		"in f, with much":             Self(Apply(f, OfSizeClosed(5001), again)),
		"in a Pi":                     Self(Pi(again, n)),
		"in a Pi's body, with much":   Self(Pi(OfSizeClosed(5001), App(Var(1), Var(1)))),
		"in a Proj":                   Self(Proj("Pair", 0, App(f, again))),
		"in a recursor":               Self(Apply(recN, n, again, n, a)),
		"in a lambda, with much":      Self(Lam(n, Apply(f, OfSizeClosed(5001), App(Var(1), Var(1))))),
		"in a lambda that contracts":  Self(Lam(n, Apply(f, App(Var(1), Var(1)), Var(0)))),
		"in a pair of fields of that": Self(Both(Apply(f, OfSizeClosed(5001), again))),
		"in one more and one more":    Self(Succ(again)),
		"a great number":              Power(16),
		"a lambda":                    Self(Lam(n, App(Var(1), Var(1)))),
	}
}

// Lost: terms that grow without an end, but by nothing, as contraction loses it.
func Lost() map[string]api.Term {
	n, f, p, again := Const("N"), Const("f"), Const("p"), App(Var(0), Var(0))
	many := slices.Repeat([]api.Term{n}, 3000)
	typed := func(x, y api.Term) api.Term { return Apply(Const("Pair.mk", Zero, Zero), x, y, First(p), Second(p)) }
	return map[string]api.Term{
		"in a domain that is lost":            Self(Lam(again, App(f, Var(0)))),
		"in a domain that is lost, with many": Self(Lam(Apply(f, append([]api.Term{again}, many...)...), App(f, Var(0)))),
		"in one behind many":                  Self(Lam(Apply(f, append(many, again)...), App(f, Var(0)))),
		"in a pair's type":                    Self(typed(again, n)),
		"in a pair's other type":              Self(typed(Apply(f, many...), again)),
		"in lambdas":                          Self(Lam(n, App(Var(1), Var(1)))),
	}
}

// Untyped: small terms, most of which are of no type, or none of one if they are applied to themselves, or to one another.
func Untyped() []api.Term {
	n, again := Const("N"), App(Var(0), Var(0))
	recN := Const("N.rec", Zero)
	return []api.Term{
		Lam(n, again), Const("loose", Two), Sort(Zero), Pi(n, n), Num(1), First(Const("p")), Count(Const("a")), recN, Lam(n, Lam(n, Apply(Var(1), Var(1), Var(0)))),
		Lam(n, Count(again)), Lam(n, First(again)), Lam(n, Lam(n, Apply(Var(1), Var(1), again))), Lam(n, Both(Var(0))),
		Lam(n, Let(n, Var(0), again)), Lam(n, First(Var(0))), Lam(n, Apply(recN, n, Var(0), Var(0), Var(0))), Lam(n, Lam(Var(0), App(Var(1), Var(0)))),
	}
}

// Power: the number 2 to the k-th, by the definition double.
func Power(k int) api.Term {
	x := Const("one")
	for range k {
		x = App(Const("double"), x)
	}
	return x
}

// Odd: 1, if a number is odd, else 0; all that is below it waits for it.
func Odd(x api.Term) api.Term {
	n := Const("N")
	not := Apply(Const("N.rec", Zero), Lam(n, n), Num(1), Lam(n, Lam(n, Num(0))), Var(0))
	return Apply(Const("N.rec", Zero), Lam(n, n), Num(0), Lam(n, Lam(n, not)), x)
}

// Chained: of an axiom that is applied to two lambdas of what it is applied to ahead, again and again: as a term it is 2 to the k-th as great, but all that is contracted.
func Chained(k int) api.Term {
	n, f, x := Const("N"), Const("f"), Var(0)
	same := Lam(Var(0), App(f, Var(0)))
	for range k {
		x = Let(n, Apply(f, same, same), x)
	}
	return Let(n, n, x)
}

// OfDepthClosed: a normal form of which k nodes stand in one another, f, applied to many in the place of its first one, again and again.
func OfDepthClosed(k int) api.Term {
	n, x := Const("N"), Const("N")
	for k > 1 {
		args := min(k-1, 1000)
		x = Apply(Const("f"), append([]api.Term{x}, slices.Repeat([]api.Term{n}, args-1)...)...)
		k -= args
	}
	return x
}

// GreatInfos: definitions that are as great as may be, or half so, and structures.
func GreatInfos() []api.Info {
	n, s := Const("N"), Sort(Zero)
	ctor := func(name string, of string, fixed, fields int) api.Info {
		return api.Info{Kind: api.IsCtor, Name: name, Type: n, Of: of, Fixed: fixed, Fields: fields}
	}
	return []api.Info{
		IsAxiom(0, "N", s), IsAxiom(0, "S", n), IsAxiom(0, "f", n), IsAxiom(0, "y", n),
		{Kind: api.IsType, Name: "R", Type: s, Record: true}, ctor("R.mk", "R", 1, 2),
		{Kind: api.IsType, Name: "Q", Type: s, Record: true}, ctor("Q.mk", "Q", 0, 1),
		IsDef(0, "half", n, OfSizeClosed(api.TopTerm/2-1)),
		IsDef(0, "full", n, OfSizeClosed(api.TopTerm)),
		IsDef(0, "tall", n, OfDepthClosed(api.TopDepth/2)),
		IsDef(0, "top", n, OfDepthClosed(api.TopDepth)),
	}
}
