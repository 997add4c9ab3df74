package sample

import "batten/api"

// Kin: terms, and how many steps each takes to its normal form; those of one list have one form, those of different ones different forms.
func Kin() [][]Way {
	n, a, f, p := Const("N"), Const("a"), Const("f"), Const("p")
	id := func(t api.Term) api.Term { return App(Const("id", Zero), t) }
	unary := Pi(n, n)
	return [][]Way{
		{{a, 0}, {Id(a), 3}, {Let(n, a, Var(0)), 1}, {First(Mk(a, f)), 1}, {Add(a, Num(0)), 7}, {Both(a), 0}},
		{{Num(2), 0}, {Add(Num(1), Num(1)), 14}, {Succ(Const("one")), 1}, {App(Const("double"), Const("one")), 18}},
		{{Num(1), 0}, {Const("one"), 1}, {Add(Num(1), Num(0)), 7}},
		{{Num(3), 0}},
		{{f, 0}, {Lam(n, App(f, Var(0))), 0}, {Lam(unary, App(f, Id(Var(0)))), 3}},
		{{p, 0}, {Both(p), 0}, {Swap(Swap(p)), 14}, {Lam(n, App(p, Var(0))), 0}},
		{{Swap(p), 4}, {Mk(Second(p), First(p)), 0}},
		{{Lam(n, Var(0)), 0}, {id(n), 2}},
		{{Lam(unary, Var(0)), 0}, {id(unary), 2}, {Lam(unary, Lam(n, App(Var(1), Var(0)))), 0}},
		{{Var(0), 0}, {Both(Var(0)), 0}},
		{{Var(1), 0}, {Lam(n, App(Var(2), Var(0))), 0}},
		{{Sort(Zero), 0}, {Apply(Const("id", Two), Sort(Two), Sort(Zero)), 3}},
		{{Sort(Two), 0}},
		{{unary, 0}, {Pi(Id(n), App(id(Sort(Zero)), n)), 6}},
		{{Pi(n, Var(0)), 0}},
		{{Const("id", Zero), 1}, {Lam(Sort(Zero), Lam(Var(0), Var(0))), 0}},
		{{Const("id", Two), 1}, {Lam(Sort(Two), Lam(Var(0), Var(0))), 0}},
		{{Const("Pair", Zero, Zero), 0}},
		{{Const("Pair", Zero, Two), 0}},
		{{First(p), 0}, {Second(Swap(p)), 5}},
		{{Proj("Other", 0, p), 0}},
		{{Second(p), 0}, {First(Swap(p)), 5}},
		{{Const("none"), 0}},
		{{App(Const("none"), Const("one")), 1}, {App(Const("none"), Num(1)), 0}},
	}
}
