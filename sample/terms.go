package sample

import (
	"math"
	"slices"
	"strings"

	"batten/api"
)

// OfSize: a term of n nodes, few of which stand in one another; of these the same ones are shared.
func OfSize(n int) api.Term {
	made := map[int]api.Term{1: Var(0)}
	var of func(n int) api.Term
	of = func(n int) api.Term {
		if t, is := made[n]; is {
			return t
		}
		var t api.Term
		if n == 2 {
			t = Proj("S", 0, of(1))
		} else {
			t = App(of((n-1)/2), of(n-1-(n-1)/2))
		}
		made[n] = t
		return t
	}
	return of(n)
}

// Steps: each way in which a node stands in another one.
func Steps() []func(api.Term) api.Term {
	return []func(api.Term) api.Term{
		func(t api.Term) api.Term { return App(t, Var(0)) },
		func(t api.Term) api.Term { return App(Var(0), t) },
		func(t api.Term) api.Term { return Lam(t, Var(0)) },
		func(t api.Term) api.Term { return Lam(Var(0), t) },
		func(t api.Term) api.Term { return Pi(t, Var(0)) },
		func(t api.Term) api.Term { return Pi(Var(0), t) },
		func(t api.Term) api.Term { return Let(t, Var(0), Var(0)) },
		func(t api.Term) api.Term { return Let(Var(0), t, Var(0)) },
		func(t api.Term) api.Term { return Let(Var(0), Var(0), t) },
		func(t api.Term) api.Term { return Proj("S", 0, t) },
	}
}

// OfDepth: a term of which n nodes stand in one another, all in this way.
func OfDepth(n int, in api.Term, step func(api.Term) api.Term) api.Term {
	for range n - 1 {
		in = step(in)
	}
	return in
}

// Leaves that may be, with those numbers of fields that are allowed at most.
func Leaves() []api.Term {
	return []api.Term{
		Sort(Zero), Sort(Two), Sort(Great),
		Var(0), Var(1), Var(2), Var(Far),
		Const("A"), Const("B.b'"), Const("A", Zero), Const("A", Zero, Two), Const("A", Two, Zero),
		Const(Name32, Zero, Param, Great, Two),
	}
}

// Small: terms that may be, of all kinds, in which three nodes or fewer stand in one another.
func Small() []api.Term {
	some := []api.Term{Sort(Zero), Var(0), Var(1), Var(2), Const("A"), Const("B", Param)}
	out := Leaves()
	grow := func(l []api.Term) []api.Term {
		var out []api.Term
		for _, x := range l {
			out = append(out, Proj("P", 0, x), Proj("A", 1, x))
			for _, y := range l {
				out = append(out, App(x, y), Lam(x, y), Pi(x, y))
				for _, z := range some[:4] {
					out = append(out, Let(x, y, z), Let(z, x, y))
				}
			}
		}
		return out
	}
	once := grow(some)
	few := slices.Clone(some[:3])
	for i := 0; i < len(once); i += 13 {
		few = append(few, once[i])
	}
	return append(append(out, once...), grow(few)...)
}

// Some: the first ones of the small terms, and each n-th one.
func Some(n int) []api.Term {
	var out []api.Term
	for i, x := range Small() {
		if i%n == 0 || i < 20 {
			out = append(out, x)
		}
	}
	return out
}

// Bads: terms that may not be, some of which have no end.
func Bads() []api.Term {
	out := endless()
	for _, l := range BadLevels() {
		out = append(out, Sort(l), Const("A", l), Const("A", Zero, Zero, Zero, l), App(Var(0), Sort(l)))
	}
	for _, n := range []int{-1, math.MinInt, Far + 1, math.MaxInt} {
		out = append(out, Var(n), Lam(Var(0), Var(n)), Proj("S", n, Var(0)))
	}
	for _, s := range []string{"", Name33, "a-b", "a b", "\x00", "n\u00e4me", strings.Repeat("a", 1<<20)} {
		out = append(out, Const(s), Proj(s, 0, Var(0)), Pi(Const(s), Var(0)))
	}
	double := Var(0)
	for range 200 {
		double = App(double, double)
	}
	return append(out,
		api.Term{},
		api.Term{K: 9},
		api.Term{K: 255, T: []api.Term{Var(0)}},
		api.Term{K: api.Sort},
		api.Term{K: api.Sort, Ls: []api.Level{Zero, Zero}},
		Const("A", Zero, Zero, Zero, Zero, Zero),
		Const("A", make([]api.Level, 1<<16)...),
		Proj("S", api.MaxArgs, Var(0)),
		Node(api.App), Node(api.App, Var(0)), Node(api.App, Var(0), Var(0), Var(0)),
		Node(api.Lam, Var(0)), Node(api.Pi, Var(0), Var(0), Var(0)),
		Node(api.Let, Var(0), Var(0)), Node(api.Let, Var(0), Var(0), Var(0), Var(0)),
		Node(api.Let, make([]api.Term, 1<<16)...),
		App(Var(0), api.Term{}), Let(Var(0), Var(0), Lam(api.Term{}, Var(0))),
		OfSize(api.TopTerm+1),
		OfDepth(api.TopDepth+1, Var(0), Steps()[3]),
		double,
	)
}

// BadWithin: terms that may not be, or in which one stands, at the head, and in all places that a step may lose.
func BadWithin() []api.Term {
	n, a, f, recN := Const("N"), Const("a"), Const("f"), Const("N.rec", Zero)
	redex := App(Lam(n, Var(0)), a)
	var out []api.Term
	for _, b := range append(Bads(), api.Term{K: api.Const, S: "one", N: 1}, Const("id", BadLevels()[2]), App(redex, api.Term{})) {
		out = append(out,
			b, App(Const("one"), b), App(b, a), App(Var(0), b), App(Lam(n, n), b), App(Lam(b, n), a), Lam(b, n), Lam(b, App(f, Var(0))), Lam(n, App(b, Var(0))),
			Pi(n, b), Let(n, b, n), Let(b, a, n), First(b), First(Mk(a, b)), Both(b), Mk(First(Const("p")), b), Apply(recN, n, n, b, Num(0)), Apply(recN, n, n, n, b),
			App(Self(App(Var(0), Var(0))), b),
		)
	}
	return out
}

// endless: terms that stand in themselves.
func endless() []api.Term {
	var out []api.Term
	for _, k := range []uint8{api.App, api.Lam, api.Pi, api.Let, api.Proj} {
		for own := range 3 {
			t := api.Term{K: k, T: []api.Term{Var(0), Var(0), Var(0)}}
			switch k {
			case api.Proj:
				t.S, t.T = "S", t.T[:1]
			case api.Let:
			default:
				t.T = t.T[:2]
			}
			if own < len(t.T) {
				t.T[own] = t
				out = append(out, t)
			}
		}
		all := out[len(out)-1]
		for i := range all.T {
			all.T[i] = all
		}
	}
	return out
}

// Grown: a term that the bytes tell, with any fields; it may be, or not.
func Grown(b []byte) api.Term {
	next := func() int {
		if len(b) == 0 {
			return 2
		}
		c := b[0]
		b = b[1:]
		return int(c)
	}
	names := []string{"", "A", "B.b", Name32, Name33, "a-b"}
	numbers := []int{0, 0, 0, 1, 2, 3, 11, 12, Far, Far + 1, -1, math.MaxInt, math.MinInt}
	levels := append([]api.Level{Zero, Two, Param, Great}, BadLevels()...)
	var grow func(deep int) api.Term
	grow = func(deep int) api.Term {
		c := next()
		t := api.Term{K: uint8(c % 10)}
		if c >= 200 { // with fields that are not the kind's
			t.N, t.S = numbers[next()%len(numbers)], names[next()%len(names)]
		}
		parts := []int{0, 0, 0, 0, 2, 2, 2, 3, 1, 2}[t.K]
		switch t.K {
		case api.Sort:
			t.Ls = []api.Level{levels[next()%len(levels)]}
		case api.Var:
			t.N = numbers[next()%len(numbers)]
		case api.Const:
			t.S = names[next()%len(names)]
			for range next() % 6 {
				t.Ls = append(t.Ls, levels[next()%4])
			}
		case api.Proj:
			t.S, t.N = names[next()%len(names)], numbers[next()%len(numbers)]
		}
		if deep > 8 {
			return t
		}
		for range parts {
			t.T = append(t.T, grow(deep+1))
		}
		return t
	}
	return grow(0)
}

// Bytes tell what is grown of them, from the first one on.
type Bytes struct{ B []byte }

// Next: a number below of; 0, if no byte is left.
func (g *Bytes) Next(of int) int {
	if len(g.B) == 0 {
		return 0
	}
	c := g.B[0]
	g.B = g.B[1:]
	return int(c) % of
}

// Scattered: so many bytes, which k tells.
func Scattered(k, of int) []byte {
	b := make([]byte, of)
	s := uint32(k)*2654435761 + 12345
	for i := range b {
		s = s*1664525 + 1013904223
		b[i] = byte(s >> 24)
	}
	return b
}
