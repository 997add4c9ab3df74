package sample

import "batten/api"

// Formed is a term over the sample, its normal form, and how many steps there are to that.
type Formed struct {
	X, Want api.Term
	Steps   int
}

// Contracted: terms in which something is contracted, or stays, as it is not just what is. Some are of what Strangers are.
func Contracted() map[string]Formed {
	all := map[string]Formed{}
	for what, l := range map[string]map[string]Formed{
		"a function": functions(), "functions": functionsBelow(), "a structure": structures(), "both": functionsOfStructures(),
	} {
		for of, c := range l {
			all[what+": "+of] = c
		}
	}
	for what, l := range map[string]map[string]api.Term{"no function": noFunctions(), "no structure": noStructures()} {
		for of, x := range l {
			all[what+": "+of] = Formed{x, x, 0}
		}
	}
	return all
}

// functions: lambdas of what they apply to their variable.
func functions() map[string]Formed {
	n, a, f := Const("N"), Const("a"), Const("f")
	recN, unary := Const("N.rec", Zero), Pi(n, n)
	return map[string]Formed{
		"f":                       {Lam(n, App(f, Var(0))), f, 0},
		"f of another type":       {Lam(unary, App(f, Var(0))), f, 0},
		"of a type with a step":   {Lam(Const("one"), App(f, Var(0))), f, 1},
		"a variable":              {Lam(n, App(Var(1), Var(0))), Var(0), 0},
		"of two arguments":        {Lam(n, Apply(f, a, Var(0))), App(f, a), 0},
		"of variables":            {Lam(n, Apply(Var(5), Var(1), Var(2), Var(0))), Apply(Var(4), Var(0), Var(1)), 0},
		"below a binder in it":    {Lam(n, Apply(f, Lam(n, Apply(Var(0), Var(2), Var(0))), Var(0))), App(f, Lam(n, Apply(Var(0), Var(1), Var(0)))), 0},
		"a sort":                  {Lam(n, App(Sort(Zero), Var(0))), Sort(Zero), 0},
		"functions":               {Lam(n, App(Pi(n, Var(2)), Var(0))), Pi(n, Var(1)), 0},
		"a field":                 {Lam(n, App(First(Var(3)), Var(0))), First(Var(2)), 0},
		"a constructor":           {Lam(n, Succ(Var(0))), Const("N.succ"), 0},
		"a structure's":           {Lam(n, Mk(a, Var(0))), Apply(Const("Pair.mk", Zero, Zero), n, n, a), 0},
		"a recursor":              {Lam(n, Apply(recN, Var(1), Var(2), Var(3), Var(0))), Apply(recN, Var(0), Var(1), Var(2)), 0},
		"a recursor that is more": {Lam(n, Apply(recN, n, n, n, a, Var(0))), Apply(recN, n, n, n, a), 0},
		"by a definition":         {Const("add"), Lam(n, Apply(recN, Lam(n, n), Var(0), Lam(n, Const("N.succ")))), 1},
		"by a let":                {Lam(n, Let(n, Var(0), App(f, Var(0)))), f, 1},
		"by a definition within":  {Lam(n, App(f, Id(Var(0)))), f, 3},
		"by what is dropped":      {Lam(n, App(App(Lam(n, f), Var(0)), Var(0))), f, 1},
		"of the variable, by id":  {Lam(n, App(App(Const("id", Zero), n), Var(0))), Lam(n, Var(0)), 3},
		"of a lambda":             {Lam(n, App(Lam(n, App(f, Var(0))), Var(0))), f, 1},
	}
}

// functionsBelow one another, of which each may be contracted once those within are.
func functionsBelow() map[string]Formed {
	n, a, f := Const("N"), Const("a"), Const("f")
	recN, two := Const("N.rec", Zero), Lam(n, Lam(n, Apply(f, Var(1), Var(0))))
	return map[string]Formed{
		"two":                                 {two, f, 0},
		"two, the inner one alone":            {Lam(n, Lam(n, Apply(Var(1), Var(1), Var(0)))), Lam(n, App(Var(0), Var(0))), 0},
		"two, the inner one of what is there": {Lam(n, Lam(n, Apply(f, a, Var(0)))), Lam(n, App(f, a)), 0},
		"three":                               {Lam(n, Lam(n, Lam(n, Apply(f, Var(2), Var(1), Var(0))))), f, 0},
		"three, two of them":                  {Lam(n, Lam(n, Lam(n, Apply(f, Var(2), Var(2), Var(1), Var(0))))), Lam(n, Apply(f, Var(0), Var(0))), 0},
		"in what is applied":                  {Lam(n, App(f, Lam(n, Apply(Var(1), Var(0))))), f, 0},
		"in what is applied, twice":           {Lam(n, App(f, Lam(n, App(Var(1), Lam(n, App(Var(1), Var(0))))))), f, 0},
		"in what it is applied to":            {Lam(n, App(App(f, Lam(n, App(Var(2), Var(0)))), Var(0))), App(f, Var(0)), 0},
		"of a lambda that is dropped":         {Lam(Lam(n, App(f, Var(0))), App(f, Var(0))), f, 0},
		"in a domain":                         {Lam(Lam(n, App(f, Var(0))), Var(0)), Lam(f, Var(0)), 0},
		"in functions":                        {Pi(two, two), Pi(f, f), 0},
		"in a major argument":                 {Apply(recN, n, n, n, two), Apply(recN, n, n, n, f), 0},
		"in what a Proj is of":                {First(two), First(f), 0},
		"a variable, as long as may be":       {Lam(n, App(Var(4), Lam(n, App(Var(1), Lam(n, App(Var(1), Var(0))))))), Var(3), 0},
	}
}

// structures: the constructor, of all the fields of one and the same.
func structures() map[string]Formed {
	n, a, f, p := Const("N"), Const("a"), Const("f"), Const("p")
	recN, couple := Const("N.rec", Zero), PairOf(n, n)
	of := func(x, y, z, v api.Term) api.Term { return Apply(Const("Pair.mk", Zero, Zero), x, y, z, v) }
	return map[string]Formed{
		"p":                         {Both(p), p, 0},
		"a variable":                {Both(Var(3)), Var(3), 0},
		"what it is not of":         {Both(a), a, 0},
		"what is applied":           {Both(Apply(Var(0), a, Num(2))), Apply(Var(0), a, Num(2)), 0},
		"a field":                   {Both(Second(p)), Second(p), 0},
		"of other types":            {of(a, Sort(Zero), First(p), Second(p)), p, 0},
		"of types with steps":       {of(Const("one"), Id(n), First(p), Second(p)), p, 4},
		"at other levels":           {Apply(Const("Pair.mk", P(0, 1), Two), n, n, First(p), Second(p)), p, 0},
		"at none":                   {Apply(Const("Pair.mk"), n, n, First(p), Second(p)), p, 0},
		"by steps":                  {Mk(First(Id(p)), Second(App(Lam(n, Var(0)), p))), p, 4},
		"by steps of both":          {Mk(Id(First(p)), Id(Second(p))), p, 6},
		"of what is put together":   {Both(Mk(a, Var(0))), Mk(a, Var(0)), 2},
		"a swap of a swap":          {Apply(Const("swap", Zero, Zero), n, n, Apply(Const("swap", Zero, Zero), n, n, p)), p, 4 + 2*5},
		"by the same in two ways":   {Mk(First(App(f, Const("one"))), Second(App(f, Num(1)))), App(f, Num(1)), 1},
		"by a contraction within":   {Mk(First(Lam(n, App(f, Var(0)))), Second(f)), f, 0},
		"one within":                {Both(App(f, Both(p))), App(f, p), 0},
		"fields that are by both":   {Mk(Both(First(p)), Lam(n, App(Second(p), Var(0)))), p, 0},
		"by what a field is of":     {Mk(First(Both(p)), Second(Both(p))), p, 2},
		"by what is stuck":          {Both(Apply(recN, n, n, n, a)), Apply(recN, n, n, n, a), 0},
		"below a binder":            {Lam(couple, Both(Var(0))), Lam(couple, Var(0)), 0},
		"in functions":              {Pi(Both(p), Both(Var(0))), Pi(p, Var(0)), 0},
		"below a binder, of others": {Lam(couple, Mk(First(Var(1)), Second(Var(1)))), Lam(couple, Var(1)), 0},
	}
}

// functionsOfStructures: what is contracted again behind a contraction, of the other sort, too.
func functionsOfStructures() map[string]Formed {
	n, f, p := Const("N"), Const("f"), Const("p")
	unary, couple := Pi(n, n), PairOf(n, n)
	return map[string]Formed{
		"a structure behind a lambda":             {Lam(n, App(Both(Var(1)), Var(0))), Var(0), 0},
		"of p":                                    {Lam(n, App(Both(p), Var(0))), p, 0},
		"and a lambda behind that":                {Lam(n, Lam(n, App(Both(App(f, Var(1))), Var(0)))), f, 0},
		"and a structure behind that":             {Lam(n, App(Both(Lam(n, App(Both(Var(2)), Var(0)))), Var(0))), Var(0), 0},
		"a lambda of two":                         {Lam(n, Lam(n, Apply(Both(Var(2)), Var(1), Var(0)))), Var(0), 0},
		"in which it is there":                    {Lam(n, App(Both(Var(0)), Var(0))), Lam(n, App(Both(Var(0)), Var(0))), 0},
		"a structure of a structure":              {Both(App(f, Both(Var(0)))), App(f, Var(0)), 0},
		"fields that are structures":              {Mk(Both(First(p)), Both(Second(p))), p, 0},
		"fields that are lambdas":                 {Mk(Lam(n, App(First(p), Var(0))), Lam(n, App(Second(p), Var(0)))), p, 0},
		"fields of what is a lambda":              {Mk(First(Lam(n, App(Var(4), Var(0)))), Second(Var(3))), Var(3), 0},
		"a lambda of the field of one":            {Lam(n, App(Second(Both(p)), Var(0))), Second(p), 1},
		"a lambda of a structure of its variable": {Lam(couple, App(f, Both(Var(0)))), f, 0},
		"a lambda of a lambda of its variable":    {Lam(unary, App(f, Lam(n, App(Var(1), Var(0))))), f, 0},
	}
}

// noFunctions: lambdas that do more with their variable, or something else.
func noFunctions() map[string]api.Term {
	n, a, f := Const("N"), Const("a"), Const("f")
	couple := PairOf(n, n)
	return map[string]api.Term{
		"its variable":                Lam(n, Var(0)),
		"another variable":            Lam(n, Var(1)),
		"of itself":                   Lam(n, App(Var(0), Var(0))),
		"in what it applies":          Lam(n, Apply(f, Var(0), Var(0))),
		"deep in what it applies":     Lam(n, Apply(f, Lam(n, App(Var(2), Var(1))), Var(0))),
		"in a type there":             Lam(n, Apply(f, Pi(Var(0), n), Var(0))),
		"applied to another variable": Lam(n, App(f, Var(1))),
		"applied to a number":         Lam(n, App(f, a)),
		"applied to more":             Lam(n, App(f, Succ(Var(0)))),
		"then to another":             Lam(n, Apply(f, Var(0), a)),
		"then to another variable":    Lam(n, Apply(f, Var(0), Var(1))),
		"a field of it":               Lam(couple, First(Var(0))),
		"functions":                   Lam(n, Pi(n, Var(0))),
		"a Pi":                        Pi(n, App(f, Var(0))),
		"a Pi, applied":               App(Pi(n, App(f, Var(0))), Var(0)),
		"two, the wrong way round":    Lam(n, Lam(n, Apply(f, Var(0), Var(1)))),
		"two, the inner one of both":  Lam(n, Lam(n, Apply(Var(2), Var(1), App(f, Var(0))))),
		"what the outer one is of":    Lam(n, App(Var(0), Lam(n, Var(0)))),
	}
}

// noStructures: constructors of other things than all the fields of one and the same.
func noStructures() map[string]api.Term {
	n, a, p := Const("N"), Const("a"), Const("p")
	couple := PairOf(n, n)
	return map[string]api.Term{
		"the fields the other way round": Mk(Second(p), First(p)),
		"the first one twice":            Mk(First(p), First(p)),
		"the second one twice":           Mk(Second(p), Second(p)),
		"fields of two terms":            Mk(First(Var(0)), Second(Var(1))),
		"fields of two terms, the first": Mk(First(p), Second(Var(1))),
		"a field of a field":             Mk(First(p), Second(First(p))),
		"just the first":                 Mk(First(p), a),
		"just the second":                Mk(a, Second(p)),
		"none":                           Mk(a, a),
		"without the second":             Apply(Const("Pair.mk", Zero, Zero), n, n, First(p)),
		"without both":                   Apply(Const("Pair.mk", Zero, Zero), n, n),
		"without all":                    Const("Pair.mk", Zero, Zero),
		"without types":                  Apply(Const("Pair.mk", Zero, Zero), First(p), Second(p)),
		"without one type":               Apply(Const("Pair.mk", Zero, Zero), n, First(p), Second(p)),
		"applied to more":                App(Both(p), a),
		"applied to a field":             Apply(Both(p), Second(p)),
		"applied to one field more":      App(Both(p), Proj("Pair", 2, p)),
		"applied to its fields again":    Apply(Both(p), First(p), Second(p)),
		"fields of another structure":    Mk(Proj("Other", 0, p), Proj("Other", 1, p)),
		"a field of another structure":   Mk(First(p), Proj("Other", 1, p)),
		"of a constructor's name":        Mk(Proj("Pair.mk", 0, p), Proj("Pair.mk", 1, p)),
		"fields of other places":         Mk(Proj("Pair", 1, p), Proj("Pair", 2, p)),
		"fields that are applied":        Mk(App(First(p), a), App(Second(p), a)),
		"another one's constructor":      Apply(Const("Other.mk"), First(p), Second(p)),
		"what is no structure":           Apply(Const("Plain.mk"), Proj("Plain", 0, p), Proj("Plain", 1, p)),
		"a type":                         Apply(Const("Pair", Zero, Zero), n, n, First(p), Second(p)),
		"an axiom":                       Apply(Const("ax"), n, n, First(p), Second(p)),
		"a theorem":                      Apply(Const("th"), n, n, First(p), Second(p)),
		"a name that is none":            Apply(Const("none"), n, n, First(p), Second(p)),
		"a variable":                     Apply(Var(0), n, n, First(p), Second(p)),
		"a field of a structure":         Apply(First(p), n, n, First(p), Second(p)),
		"lists":                          Apply(Const("List.cons", Zero), n, Proj("List", 0, p), Proj("List", 1, p)),
		"a number":                       Succ(Proj("N", 0, p)),
		"below a binder, two":            Lam(couple, Mk(First(Var(0)), Second(Var(1)))),
		"a lambda":                       Lam(n, First(p)),
	}
}

// Strangers: infos beside the sample that are like some of it, but other things.
func Strangers() []api.Info {
	n, a, s := Const("N"), Const("a"), Sort(Zero)
	return []api.Info{
		{Kind: api.IsType, Name: "Other", Type: s, Record: true},
		{Kind: api.IsCtor, Name: "Other.mk", Type: n, Of: "Other", Fields: 2},
		{Kind: api.IsType, Name: "Plain", Type: s, Value: n},
		{Kind: api.IsCtor, Name: "Plain.mk", Type: n, Of: "Plain", Fields: 2},
		IsAxiom(0, "ax", n), IsTheorem(0, "th", n, a),
	}
}
