package sample

import "batten/api"

// Way is a term that becomes another one by so many steps.
type Way struct {
	X     api.Term
	Steps int
}

// Ways to one and the same term, each kind of step among them. Lifted puts a term one binder further in.
func Ways(x api.Term, lifted func(x api.Term) api.Term) map[string]Way {
	n, a := Const("N"), Const("a")
	self, none := Lam(n, Var(0)), Const("none")
	return map[string]Way{
		"at hand":                {x, 0},
		"a lambda":               {App(self, x), 1},
		"a lambda of another":    {Apply(Lam(n, Lam(n, Var(1))), x, none), 2},
		"a lambda around it":     {App(Lam(n, lifted(x)), none), 1},
		"a let":                  {Let(n, x, Var(0)), 1},
		"a let around it":        {Let(n, none, lifted(x)), 1},
		"a let of a let":         {Let(n, Let(n, x, Var(0)), Let(n, Var(0), Var(0))), 3},
		"a definition":           {Id(x), 3},
		"a recursor, at 0":       {Apply(Const("N.rec", Zero), Lam(n, n), x, none, Num(0)), 4},
		"a recursor, at one":     {Apply(Const("N.rec", Zero), Lam(n, n), a, Lam(n, Lam(n, lifted(lifted(x)))), Const("one")), 8},
		"a recursor of lists":    {Apply(Const("List.rec", Zero, Zero), n, n, a, Lam(n, Lam(n, Lam(n, Var(2)))), List(x)), 1 + 6 + 3},
		"a projection":           {First(Mk(x, a)), 1},
		"the other one":          {Second(Mk(a, x)), 1},
		"a projection of a swap": {Second(Swap(Mk(x, a))), 6},
		"a projection of one":    {First(Second(Mk(a, Mk(x, a)))), 2},
		"a structure's recursor": {Apply(Const("Pair.rec", Zero, Zero, Zero), n, n, n, Lam(n, Lam(n, Var(1))), Mk(x, a)), 1 + 5 + 2 + 1},
		"a let of a projection":  {Let(n, First(Mk(x, a)), App(self, Var(0))), 3},
	}
}

// Redexes: with steps of each kind, within one another, and what is contracted.
func Redexes() []api.Term {
	n, a, f, p := Const("N"), Const("a"), Const("f"), Const("p")
	inner := Id(a)
	return []api.Term{
		Add(Num(2), Add(Num(1), Const("one"))), Count(inner), App(Count(Num(1)), inner), Apply(Count(inner), inner, a),
		Lam(inner, App(f, Var(0))), Pi(inner, inner), App(Pi(inner, n), Const("id", Two)),
		First(Id(p)), Apply(Second(Swap(p)), inner), Proj("Pair", 5, inner), Both(inner), Mk(First(Swap(p)), inner),
		Apply(Lam(n, Lam(n, Var(1))), Var(3), inner), Let(n, inner, App(f, Var(0))), App(Let(n, Var(4), Lam(n, Var(1))), a),
		Lam(n, Apply(Var(4), inner, Var(0))), Lam(n, Lam(n, Apply(f, inner, Var(0)))), Sum(List(inner, a)), Const("double"), f, Const("id", P(1, 1)),
		Apply(Const("N.rec", Zero), n, inner, Const("add")), Apply(Const("Pair.rec", Zero, Two, Zero), n, n, n, f, Apply(Const("swap", Two, Zero), n, n, p)),
	}
}

// Rows: all names of the sample, at any number of levels, and other heads, of any number of arguments.
func Rows() []api.Term {
	n, a, f, one := Const("N"), Const("a"), Const("f"), Const("one")
	args := []api.Term{n, one, Lam(n, n), Add(a, Num(1)), First(Mk(Num(1), a)), Lam(n, Lam(n, App(f, Var(0)))), Var(3)}
	heads := []api.Term{
		Var(0), Sort(Zero), Const("none"), Second(Const("p")), First(Swap(Mk(a, Const("double")))), Lam(n, Var(0)), Let(n, f, Var(0)), Pi(one, Const("double")),
	}
	for _, x := range Basis() {
		for k := range 4 {
			heads = append(heads, Const(x.Name, []api.Level{Zero, Two, P(0, 1)}[:k]...))
		}
	}
	var rows []api.Term
	for _, h := range heads {
		for from := range args {
			for to := from; to <= len(args); to++ {
				rows = append(rows, Apply(h, args[from:to]...))
			}
		}
	}
	return rows
}

// SmallInfos: something of each kind that the names of the small terms stand for.
func SmallInfos() []api.Info {
	s := Sort(Zero)
	return []api.Info{
		{Kind: api.IsType, Name: "P", Type: s, Record: true},
		{Kind: api.IsCtor, Name: "B.b'", Type: s, Of: "P", Fields: 1},
		IsDef(0, "A", s, Lam(s, App(Const("B.b'"), Var(0)))),
		{Kind: api.IsRec, Name: "B", Type: s, Params: 1, Rules: []api.Rule{Rule("B.b'", 1, Lam(s, App(Var(0), Var(0))))}},
	}
}
