package sample

import (
	"slices"
	"strconv"

	"batten/api"
)

func IsAxiom(params int, name string, t api.Term) api.Info {
	return api.Info{Kind: api.IsAxiom, Params: params, Name: name, Type: t}
}

func IsDef(params int, name string, t, v api.Term) api.Info {
	return api.Info{Kind: api.IsDef, Params: params, Name: name, Type: t, Value: v}
}

func IsTheorem(params int, name string, t, v api.Term) api.Info {
	return api.Info{Kind: api.IsTheorem, Params: params, Name: name, Type: t, Value: v}
}

func Rule(ctor string, fields int, body api.Term) api.Rule {
	return api.Rule{Ctor: ctor, Fields: fields, Body: body}
}

// Number: the level that is n at all parameters.
func Number(n int) api.Level { return api.Level{C: n, P: Zero.P} }

// P: the level of the parameter i, and n more.
func P(i, n int) api.Level {
	l := Zero
	l.P[i] = n
	return l
}

// NumberInfos: what the names of the block of numbers stand for.
func NumberInfos() []api.Info {
	n := Const("N")
	motive := Pi(n, Sort(P(0, 0)))
	zero := App(Var(0), Const("N.zero"))
	succ := Pi(n, Pi(App(Var(2), Var(0)), App(Var(3), App(Const("N.succ"), Var(1)))))
	body := func(t api.Term) api.Term { return Lam(motive, Lam(zero, Lam(succ, t))) }
	rec := App(App(App(App(Const("N.rec", P(0, 0)), Var(3)), Var(2)), Var(1)), Var(0))
	return []api.Info{
		{Kind: api.IsType, Name: "N", Type: Sort(Zero), Block: "N", Of: "N", Ctors: 2},
		{Kind: api.IsCtor, Name: "N.zero", Type: n, Block: "N", Of: "N"},
		{Kind: api.IsCtor, Name: "N.succ", Type: Pi(n, n), Block: "N", Of: "N", No: 1, Fields: 1},
		{
			Kind: api.IsRec, Name: "N.rec", Params: 1, Block: "N", Of: "N", Motives: 1, Minors: 2,
			Type: Pi(motive, Pi(zero, Pi(succ, Pi(n, App(Var(3), Var(0)))))),
			Rules: []api.Rule{
				Rule("N.zero", 0, body(Var(1))),
				Rule("N.succ", 1, body(Lam(n, App(App(Var(1), Var(0)), rec)))),
			},
		},
	}
}

// Infos may be added behind one another: of all kinds, at the limits of what may be.
func Infos() []api.Info {
	n := Const("N")
	most := api.Info{
		Kind: api.IsRec, Name: Name32, Params: api.MaxParams, Type: Sort(api.Level{P: [api.MaxParams]int{api.TopLevel, 0, 1, 2}}),
		Block: "of none", Of: Name33, Fixed: 1000, Index: 1000, No: 1000, Fields: 1000, Motives: 1000, Minors: 1000, Ctors: 1000, Record: true,
		Rules: []api.Rule{Rule("", 1000, n), Rule("N.zero", 0, Const("N.rec", P(3, 0))), Rule("N.zero", 0, n)},
	}
	pair := api.Info{Kind: api.IsType, Name: "S", Params: 2, Type: Pi(Sort(P(0, 0)), Sort(P(1, 1))), Block: "S", Of: "S", Fixed: 1, Ctors: 1, Record: true}
	l := append(NumberInfos(), most, pair,
		IsAxiom(0, "a", n),
		IsAxiom(4, "'", Pi(n, Sort(api.Level{P: [api.MaxParams]int{0, 1, 2, 3}}))),
		IsDef(0, "one", n, App(Const("N.succ"), Const("N.zero"))),
		IsDef(0, "two", n, App(Const("N.succ"), Const("one"))),
		IsDef(1, "id", Pi(Sort(P(0, 0)), Pi(Var(0), Var(1))), Lam(Sort(P(0, 0)), Lam(Var(0), Var(0)))),
		IsDef(2, "ids", Const("id", P(1, 3)), App(App(Const("id", P(0, 0)), Const("two")), Const("id", P(1, 1)))),
		IsTheorem(0, "t", n, Const("two")),
		IsDef(0, "of", Const("ids", Zero, Two), Const("t")),
		IsDef(0, "field", n, Proj("two", 3, Proj("S", 0, Const("a")))),
		IsDef(0, "great", OfSizeClosed(api.TopTerm), Lam(n, OfDepth(api.TopDepth-1, Var(0), Steps()[8]))),
	)
	return l
}

// OfSizeClosed: a term of n nodes, an odd number, without variables.
func OfSizeClosed(n int) api.Term {
	if n%2 == 0 {
		return Proj("S", 0, OfSizeClosed(n-1))
	}
	made := map[int]api.Term{1: Const("N")}
	var of func(n int) api.Term
	of = func(n int) api.Term {
		if t, is := made[n]; is {
			return t
		}
		left := (n - 1) / 2
		if left%2 == 0 {
			left++
		}
		t := App(of(left), of(n-1-left))
		made[n] = t
		return t
	}
	return of(n)
}

// InfoText tells an info apart from all others, nil lists as empty ones.
func InfoText(x api.Info) string {
	b := strconv.AppendInt(nil, int64(x.Kind), 10)
	for _, n := range []int{x.Params, x.Height, x.Fixed, x.Index, x.No, x.Fields, x.Motives, x.Minors, x.Ctors} {
		b = strconv.AppendInt(append(b, ' '), int64(n), 10)
	}
	b = strconv.AppendBool(append(b, ' '), x.Record)
	b = appendNamed(b, x.Name, x.Type)
	b = appendText(append(b, ':'), x.Value)
	b = strconv.AppendQuote(append(b, ' '), x.Block)
	b = strconv.AppendQuote(append(b, ' '), x.Of)
	for _, r := range x.Rules {
		b = strconv.AppendInt(append(b, '|'), int64(r.Fields), 10)
		b = appendNamed(b, r.Ctor, r.Body)
	}
	return string(b)
}

// CloneInfo: the same info with a list of rules of its own; its terms are shared.
func CloneInfo(x api.Info) api.Info {
	x.Rules = slices.Clone(x.Rules)
	return x
}
