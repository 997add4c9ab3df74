package sample

import "batten/api"

// Apply: f, applied to all of l, the first one innermost. It may be, or not.
func Apply(f api.Term, l ...api.Term) api.Term {
	for _, a := range l {
		f = App(f, a)
	}
	return f
}

// Num: the number n, made of N.zero and N.succ.
func Num(n int) api.Term {
	t := Const("N.zero")
	for range n {
		t = App(Const("N.succ"), t)
	}
	return t
}

// PairInfos: what the names of the block of pairs, a structure over two levels, stand for.
func PairInfos() []api.Info {
	u, v, w := P(0, 0), P(1, 0), P(2, 0)
	both := api.Level{P: [api.MaxParams]int{0, 0, -1, -1}}
	pair := func(a, b int) api.Term { return Apply(Const("Pair", u, v), Var(a), Var(b)) }
	mk := Apply(Const("Pair.mk", u, v), Var(4), Var(3), Var(1), Var(0))
	motive := Pi(pair(1, 0), Sort(w))
	minor := Pi(Var(2), Pi(Var(2), App(Var(2), mk)))
	return []api.Info{
		{Kind: api.IsType, Name: "Pair", Params: 2, Type: Pi(Sort(u), Pi(Sort(v), Sort(both))), Block: "Pair", Of: "Pair", Fixed: 2, Ctors: 1, Record: true},
		{
			Kind: api.IsCtor, Name: "Pair.mk", Params: 2, Block: "Pair", Of: "Pair", Fixed: 2, Fields: 2,
			Type: Pi(Sort(u), Pi(Sort(v), Pi(Var(1), Pi(Var(1), pair(3, 2))))),
		},
		{
			Kind: api.IsDef, Name: "Pair.rec", Params: 3, Block: "Pair", Of: "Pair", Fixed: 2, Motives: 1, Minors: 1,
			Type:  Pi(Sort(u), Pi(Sort(v), Pi(motive, Pi(minor, Pi(pair(3, 2), App(Var(2), Var(0))))))),
			Value: Lam(Sort(u), Lam(Sort(v), Lam(motive, Lam(minor, Lam(pair(3, 2), Apply(Var(1), Proj("Pair", 0, Var(0)), Proj("Pair", 1, Var(0)))))))),
		},
	}
}

// ListInfos: what the names of the block of lists, over one level, stand for.
func ListInfos() []api.Info {
	u, w := P(0, 0), P(1, 0)
	list := func(a int) api.Term { return App(Const("List", u), Var(a)) }
	motive := Pi(list(0), Sort(w))
	none := App(Var(0), App(Const("List.nil", u), Var(1)))
	more := Pi(Var(2), Pi(list(3), Pi(App(Var(3), Var(0)), App(Var(4), Apply(Const("List.cons", u), Var(5), Var(2), Var(1))))))
	body := func(t api.Term) api.Term { return Lam(Sort(u), Lam(motive, Lam(none, Lam(more, t)))) }
	rec := Apply(Const("List.rec", u, w), Var(5), Var(4), Var(3), Var(2), Var(0))
	return []api.Info{
		{Kind: api.IsType, Name: "List", Params: 1, Type: Pi(Sort(u), Sort(u)), Block: "List", Of: "List", Fixed: 1, Ctors: 2},
		{Kind: api.IsCtor, Name: "List.nil", Params: 1, Type: Pi(Sort(u), list(0)), Block: "List", Of: "List", Fixed: 1},
		{
			Kind: api.IsCtor, Name: "List.cons", Params: 1, Block: "List", Of: "List", Fixed: 1, No: 1, Fields: 2,
			Type: Pi(Sort(u), Pi(Var(0), Pi(list(1), list(2)))),
		},
		{
			Kind: api.IsRec, Name: "List.rec", Params: 2, Block: "List", Of: "List", Fixed: 1, Motives: 1, Minors: 2,
			Type: Pi(Sort(u), Pi(motive, Pi(none, Pi(more, Pi(list(3), App(Var(3), Var(0))))))),
			Rules: []api.Rule{
				Rule("List.nil", 0, body(Var(1))),
				Rule("List.cons", 2, body(Lam(Var(3), Lam(list(4), Apply(Var(2), Var(1), Var(0), rec))))),
			},
		},
	}
}

// Basis is the sample of statements and examples (rules, 8): numbers, pairs, lists, the axioms a, f and p, and definitions.
func Basis() []api.Info {
	n, u, v := Const("N"), P(0, 0), P(1, 0)
	unary := Pi(n, n)
	l := append(append(NumberInfos(), PairInfos()...), ListInfos()...)
	add := Apply(Const("N.rec", Zero), Lam(n, n), Var(1), Lam(n, Lam(n, App(Const("N.succ"), Var(0)))), Var(0))
	swapped := Apply(Const("Pair.mk", v, u), Var(1), Var(2), Proj("Pair", 1, Var(0)), Proj("Pair", 0, Var(0)))
	ahead := Apply(Const("Pair", u, v), Var(1), Var(0))
	behind := Apply(Const("Pair", v, u), Var(1), Var(2))
	return append(l,
		IsAxiom(0, "a", n),
		IsAxiom(0, "f", unary),
		IsAxiom(0, "p", Apply(Const("Pair", Zero, Zero), n, n)),
		IsDef(0, "add", Pi(n, unary), Lam(n, Lam(n, add))),
		IsDef(0, "one", n, Num(1)),
		IsDef(0, "double", unary, Lam(n, Apply(Const("add"), Var(0), Var(0)))),
		IsDef(1, "id", Pi(Sort(u), Pi(Var(0), Var(1))), Lam(Sort(u), Lam(Var(0), Var(0)))),
		IsDef(2, "swap", Pi(Sort(u), Pi(Sort(v), Pi(ahead, behind))), Lam(Sort(u), Lam(Sort(v), Lam(ahead, swapped)))),
	)
}
