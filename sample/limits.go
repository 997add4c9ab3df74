package sample

import (
	"slices"

	"batten/api"
)

// Limits: terms over GreatInfos, of steps that make what is as great, or as deep, as may be, less, and more; in each kind of what is put together.
func Limits() []api.Term { return append(append(wide(), tall()...), topmost()...) }

// RFields: the structure R of both fields of something, with what is fixed.
func RFields(fixed, y api.Term) api.Term {
	return Apply(Const("R.mk"), fixed, Proj("R", 0, y), Proj("R", 1, y))
}

// wide: half as many nodes as there may be, beside the others.
func wide() []api.Term {
	n, a, f := Const("N"), Const("a"), Const("f")
	half := api.TopTerm/2 - 1
	var out []api.Term
	for _, in := range []func(x, y api.Term) api.Term{
		func(x, y api.Term) api.Term { return Apply(f, x, y) },
		func(x, y api.Term) api.Term { return Apply(Var(0), y, a, x) },
		func(x, y api.Term) api.Term { return Lam(x, y) },
		func(x, y api.Term) api.Term { return App(Pi(n, x), y) },
		func(x, y api.Term) api.Term { return App(Proj("R", 0, x), y) },
		func(x, y api.Term) api.Term { return Apply(Const("R.mk"), x, n, y) },
		func(x, y api.Term) api.Term { return Lam(x, App(y, Var(0))) },
		func(x, y api.Term) api.Term { return RFields(x, Apply(f, y)) },
	} {
		beside := Size(in(n, n)) - 2
		for k := range 2 {
			out = append(out, in(Const("half"), OfSizeClosed(api.TopTerm-half-beside+k)), in(OfSizeClosed((api.TopTerm-half-beside)/2+k), Const("half")))
		}
	}
	return out
}

// Size: how many nodes a term has.
func Size(t api.Term) int {
	k := 1
	for _, x := range t.T {
		k += Size(x)
	}
	return k
}

// tall: half as deep as may be, and as much around it.
func tall() []api.Term {
	n, f := Const("N"), Const("f")
	long := func(x api.Term, k int) api.Term { return Apply(x, slices.Repeat([]api.Term{n}, k)...) }
	half := api.TopDepth / 2
	var out []api.Term
	for _, in := range []func(x api.Term) api.Term{
		func(x api.Term) api.Term { return App(f, x) },
		func(x api.Term) api.Term { return Lam(n, Apply(Var(0), x)) },
		func(x api.Term) api.Term { return Lam(App(f, x), n) },
		func(x api.Term) api.Term { return Pi(n, x) },
		func(x api.Term) api.Term { return Pi(x, n) },
		func(x api.Term) api.Term { return Proj("R", 1, x) },
		func(x api.Term) api.Term { return RFields(x, f) },
	} {
		for k := range 6 {
			out = append(out, long(in(Const("tall")), half-4+k), in(long(App(f, Const("tall")), half-5+k)))
		}
	}
	return out
}

// topmost: as many nodes, or as deep, as may be, in something else, or not.
func topmost() []api.Term {
	n, f := Const("N"), Const("f")
	var out []api.Term
	for _, s := range []string{"full", "top"} {
		x := Const(s)
		out = append(out, x, Proj("S", 0, x), Lam(n, x), Lam(x, n), Pi(n, x), App(f, x), App(x, n), Lam(x, App(f, Var(0))), RFields(x, Const("y")))
	}
	return out
}
