package sample

import "batten/api"

// Mk: the pair of two things, told as one of numbers.
func Mk(x, y api.Term) api.Term {
	return Apply(Const("Pair.mk", Zero, Zero), Const("N"), Const("N"), x, y)
}

// Succ: one more.
func Succ(x api.Term) api.Term { return App(Const("N.succ"), x) }

// Count: by the recursor one more for each one of a major argument.
func Count(major api.Term) api.Term {
	n := Const("N")
	return Apply(Const("N.rec", Zero), Lam(n, n), Num(0), Lam(n, Lam(n, Succ(Var(0)))), major)
}

// First, Second: the Projs of a pair; Both: the pair of them.
func First(x api.Term) api.Term  { return Proj("Pair", 0, x) }
func Second(x api.Term) api.Term { return Proj("Pair", 1, x) }
func Both(x api.Term) api.Term   { return Mk(First(x), Second(x)) }

// Id: a number, by a definition and two lambdas: three steps.
func Id(x api.Term) api.Term { return Apply(Const("id", Zero), Const("N"), x) }

func Add(x, y api.Term) api.Term { return Apply(Const("add"), x, y) }

// Swap: a pair of numbers, the other way round: four steps.
func Swap(x api.Term) api.Term {
	return Apply(Const("swap", Zero, Zero), Const("N"), Const("N"), x)
}

// List: of numbers.
func List(l ...api.Term) api.Term {
	n := Const("N")
	out := App(Const("List.nil", Zero), n)
	for i := range l {
		out = Apply(Const("List.cons", Zero), n, l[len(l)-1-i], out)
	}
	return out
}

// Sum: of a list of numbers, by its recursor.
func Sum(l api.Term) api.Term {
	n, of := Const("N"), ListOf(Const("N"))
	return Apply(Const("List.rec", Zero, Zero), n, Lam(of, n), Num(0), Lam(n, Lam(of, Lam(n, Add(Var(0), Var(2))))), l)
}

// Reckoned are terms over the sample that the bytes tell, for the most part such as have steps to be made, few of which have a type. Beside the sample they name "loose", a definition over one level, and "none", that is none.
type Reckoned struct{ Bytes }

// name: of the sample, at as many levels as it must have, or at others.
func (g *Reckoned) name() api.Term {
	names := []api.Term{
		Const("N"), Const("a"), Const("f"), Const("p"), Const("add"), Const("one"), Const("double"), Const("id", Zero), Const("swap", Zero, Zero),
		Const("N.zero"), Const("N.succ"), Const("N.rec", Zero), Const("List.rec", Zero, Zero), Const("Pair.mk", Zero, Zero), Const("Pair.rec", Zero, Zero, Zero),
		Const("List.nil", Zero), Const("List.cons", Zero), Const("loose", Two), Const("none"),
	}
	x := names[g.Next(len(names))]
	if g.Next(24) == 23 {
		x.Ls = []api.Level{Zero, Two, P(0, 1), Number(api.TopLevel)}[:g.Next(5)]
	}
	return x
}

// Row: a head, applied.
func (g *Reckoned) Row(deep int) api.Term {
	h := g.name()
	if g.Next(4) == 3 {
		h = g.term(deep + 1)
	}
	for range g.Next(6) {
		h = App(h, g.term(deep+1))
	}
	return h
}

// list: of so many terms, ahead of something.
func (g *Reckoned) list(deep, of int) api.Term {
	n := Const("N")
	if of == 0 {
		return []api.Term{App(Const("List.nil", Zero), n), g.term(deep + 1)}[g.Next(2)]
	}
	return Apply(Const("List.cons", Zero), n, g.term(deep+1), g.list(deep+1, of-1))
}

func (g *Reckoned) term(deep int) api.Term {
	if deep > 7 {
		return []api.Term{Var(g.Next(4)), Num(g.Next(3)), g.name()}[g.Next(3)]
	}
	n := Const("N")
	in := func() api.Term { return g.term(deep + 1) }
	switch g.Next(20) {
	case 0:
		return Var(g.Next(4))
	case 1:
		return Num(g.Next(4))
	case 2:
		return Lam(g.name(), in())
	case 3:
		return Let(g.name(), in(), in())
	case 4:
		return Proj([]string{"Pair", "Pair", "Pair", "N"}[g.Next(4)], g.Next(3), in())
	case 5:
		return Proj("Pair", g.Next(2), Mk(in(), in()))
	case 6, 7:
		return Apply(Const("N.rec", Zero), in(), in(), Lam(n, Lam(n, in())), in())
	case 8:
		return Apply(Lam(n, Lam(n, in())), in(), in())
	case 9:
		return Apply(Const("List.rec", Zero, Zero), n, n, in(), Lam(n, Lam(n, Lam(n, in()))), g.list(deep+1, g.Next(3)))
	case 10:
		return Apply(Const([]string{"add", "double"}[g.Next(2)]), in(), in())
	case 11:
		return Proj("Pair", g.Next(2), Apply(Const("swap", Zero, Zero), n, n, Mk(in(), in())))
	case 12:
		return Pi(in(), in())
	case 13:
		if k := g.Next(80); k > 60 {
			return Grown(g.B[:min(len(g.B), k-60)])
		}
	case 14:
		return Lam(n, App(in(), Var(0)))
	case 15:
		y := in()
		return Mk(Proj("Pair", 0, y), Proj("Pair", 1, y))
	}
	return g.Row(deep)
}
