package sample

import "batten/api"

// Typed are terms over the sample that the bytes tell, each of the type that is asked for. Types have no variables, and are made of numbers, pairs, lists and functions.
type Typed struct{ Bytes }

// PairOf, ListOf: types of pairs, and of lists.
func PairOf(a, b api.Term) api.Term { return Apply(Const("Pair", Zero, Zero), a, b) }

func ListOf(a api.Term) api.Term { return App(Const("List", Zero), a) }

// Context: types of each form.
func Context() []api.Term {
	n := Const("N")
	return []api.Term{n, Pi(n, n), PairOf(n, n), Pi(PairOf(n, n), n), ListOf(n)}
}

// Ample: a term that the bytes tell, in the context, and its type.
func Ample(b []byte) (x, of api.Term) {
	g := &Typed{Bytes{b}}
	of = g.Type(2)
	return g.Term(of, Context(), 4), of
}

// Twins: two terms of one type that the bytes tell, in the context, and that type.
func Twins(b []byte) (x, y, of api.Term) {
	g := &Typed{Bytes{b}}
	of = g.Type(2)
	x = g.Term(of, Context(), 4)
	return x, g.Term(of, Context(), 4), of
}

// Longer: a function or a pair, by what it does, or has (eta); all else is as it is. Lifted puts a term one binder further in.
func Longer(x, of api.Term, lifted func(x api.Term) api.Term) api.Term {
	switch {
	case of.K == api.Pi:
		return Lam(of.T[0], App(lifted(x), Var(0)))
	case of.K == api.App && of.T[0].K == api.App:
		return Apply(Const("Pair.mk", Zero, Zero), of.T[0].T[1], of.T[1], Proj("Pair", 0, x), Proj("Pair", 1, x))
	}
	return x
}

// Type: of which few stand in one another.
func (g *Typed) Type(deep int) api.Term {
	n := Const("N")
	k := g.Next(8)
	switch {
	case deep <= 0 || k < 3:
		return n
	case k < 5:
		return PairOf(g.Type(deep-1), g.Type(deep-1))
	case k < 7:
		return Pi(g.Type(deep-1), g.Type(deep-1))
	}
	return ListOf(g.Type(deep - 1))
}

// Term of a type, in a context of types, the innermost one's last.
func (g *Typed) Term(t api.Term, context []api.Term, deep int) api.Term {
	if deep <= 0 {
		return g.made(t, context, deep)
	}
	in := func(u api.Term, more ...api.Term) api.Term {
		return g.Term(u, append(context[:len(context):len(context)], more...), deep-1)
	}
	n := Const("N")
	switch g.Next(14) {
	case 0: // a lambda, applied
		u := g.Type(1)
		return App(Lam(u, in(t, u)), in(u))
	case 1:
		u := g.Type(1)
		return Let(u, in(u), in(t, u))
	case 2:
		return Apply(Const("id", Zero), t, in(t))
	case 3:
		u := g.Type(1)
		return Proj("Pair", 0, in(PairOf(t, u)))
	case 4:
		u := g.Type(1)
		return Proj("Pair", 1, in(PairOf(u, t)))
	case 5:
		return Apply(Const("N.rec", Zero), Lam(n, t), in(t), Lam(n, Lam(t, in(t, n, t))), in(n))
	case 6:
		u := g.Type(1)
		l := ListOf(u)
		return Apply(Const("List.rec", Zero, Zero), u, Lam(l, t), in(t), Lam(u, Lam(l, Lam(t, in(t, u, l, t)))), in(l))
	case 7:
		u, v := g.Type(1), g.Type(1)
		return Apply(Const("Pair.rec", Zero, Zero, Zero), u, v, Lam(PairOf(u, v), t), Lam(u, Lam(v, in(t, u, v))), in(PairOf(u, v)))
	case 8:
		u := g.Type(1)
		return App(in(Pi(u, t)), in(u))
	case 9:
		return g.longer(t, context, deep)
	}
	return g.made(t, context, deep)
}

// longer: a function or a pair, by what it is told of itself (eta).
func (g *Typed) longer(t api.Term, context []api.Term, deep int) api.Term {
	x := g.Term(t, context, deep-1)
	switch {
	case t.K == api.Pi:
		return App(Lam(t, Lam(t.T[0], App(Var(1), Var(0)))), x)
	case t.K == api.App && t.T[0].K == api.App:
		return Apply(Const("Pair.mk", Zero, Zero), t.T[0].T[1], t.T[1], Proj("Pair", 0, x), Proj("Pair", 1, x))
	}
	return x
}

// made: what has the type by its form, or by a name, or as a variable.
func (g *Typed) made(t api.Term, context []api.Term, deep int) api.Term {
	in := func(u api.Term, more ...api.Term) api.Term {
		return g.Term(u, append(context[:len(context):len(context)], more...), deep-1)
	}
	if l := placesOf(t, context); len(l) > 0 && g.Next(3) > 0 {
		return Var(l[g.Next(len(l))])
	}
	switch {
	case t.K == api.Const:
		return g.number(in, deep)
	case t.K == api.Pi:
		return Lam(t.T[0], in(t.T[1], t.T[0]))
	case t.T[0].K == api.App:
		a, b := t.T[0].T[1], t.T[1]
		if deep > 0 && g.Next(3) == 0 {
			return Apply(Const("swap", Zero, Zero), b, a, in(PairOf(b, a)))
		}
		return Apply(Const("Pair.mk", Zero, Zero), a, b, in(a), in(b))
	}
	if deep > 0 && g.Next(3) > 0 {
		return Apply(Const("List.cons", Zero), t.T[1], in(t.T[1]), in(t))
	}
	return App(Const("List.nil", Zero), t.T[1])
}

func (g *Typed) number(in func(u api.Term, more ...api.Term) api.Term, deep int) api.Term {
	n := Const("N")
	if deep <= 0 {
		return []api.Term{Num(0), Num(1), Num(2), Const("one"), Const("a"), Proj("Pair", 0, Const("p"))}[g.Next(6)]
	}
	switch g.Next(5) {
	case 0:
		return Apply(Const("add"), in(n), in(n))
	case 1:
		return App(Const("double"), in(n))
	case 2:
		return Succ(in(n))
	case 3:
		return App(Const("f"), in(n))
	}
	return App(in(Pi(n, n)), in(n))
}

// placesOf: the variables of a type.
func placesOf(t api.Term, context []api.Term) []int {
	var l []int
	for i, u := range context {
		if Text(u) == Text(t) {
			l = append(l, len(context)-1-i)
		}
	}
	return l
}
