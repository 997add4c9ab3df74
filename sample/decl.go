package sample

import (
	"math"
	"slices"
	"strconv"

	"batten/api"
)

func Axiom(params int, name string, t api.Term) api.Decl {
	return api.Decl{Kind: api.Axiom, Params: params, Name: name, Type: t}
}

func Def(params int, name string, t, v api.Term) api.Decl {
	return api.Decl{Kind: api.Def, Params: params, Name: name, Type: t, Value: v}
}

func Theorem(params int, name string, t, v api.Term) api.Decl {
	return api.Decl{Kind: api.Theorem, Params: params, Name: name, Type: t, Value: v}
}

func Block(params, fixed int, l ...api.Ind) api.Decl {
	return api.Decl{Kind: api.Block, Params: params, Fixed: fixed, Inds: l}
}

func Ind(name string, t api.Term, l ...api.Ctor) api.Ind {
	return api.Ind{Name: name, Type: t, Ctors: l}
}

func Ctor(name string, t api.Term) api.Ctor { return api.Ctor{Name: name, Type: t} }

// Numbers is a block of them.
func Numbers() api.Decl {
	n := Const("N")
	return Block(0, 0, Ind("N", Sort(Zero), Ctor("N.zero", n), Ctor("N.succ", Pi(n, n))))
}

// Decls may be, one by one: of all kinds, at the limits of what may be declared.
func Decls() []api.Decl {
	most := api.Level{C: api.MaxLevel, P: [api.MaxParams]int{-1, 0, api.MaxLevel - 1, -1}}
	all := api.Level{P: [api.MaxParams]int{api.MaxLevel, api.MaxLevel, api.MaxLevel, api.MaxLevel}}
	n, a := Const("N"), Const("a", Zero, Param)
	great, deep := OfSize(api.MaxTerm), OfDepth(api.MaxDepth, Var(Far), Steps()[5])
	var ctors []api.Ctor
	for i := range api.MaxCtors {
		ctors = append(ctors, Ctor("T.c"+strconv.Itoa(i), Sort(api.Level{C: i, P: Zero.P})))
	}
	return []api.Decl{
		Numbers(),
		Axiom(0, "a", n),
		Axiom(api.MaxParams, Name32, Sort(most)),
		Axiom(1, "a", Const(Name32, Zero, most, all, Param)),
		Axiom(0, "great", great),
		Axiom(2, "deep", deep),
		Def(0, "one", n, App(Const("N.succ"), Const("N.zero"))),
		Def(3, "'", Pi(n, n), Lam(n, Let(n, Var(0), App(Var(0), Var(1))))),
		Def(0, "d", great, deep),
		Theorem(4, "t", App(a, a), Proj("N", api.MaxArgs-1, a)),
		Theorem(0, "t", deep, great),
		Theorem(0, "t", a, a),
		Block(0, 0, Ind("Empty", Sort(Zero))),
		Block(api.MaxParams, api.MaxArgs, Ind("T", n, ctors...)),
		Block(1, 1, Ind("T", Sort(Two), ctors...), Ind("U", a), Ind("T", great, Ctor("T", deep), Ctor("U", n))),
		Block(0, 2, Ind("X", Sort(all), Ctor("X", Sort(all))), Ind("X", Sort(all), Ctor("X", Sort(all)))),
	}
}

// Terms: where the terms of a declaration stand, of whichever kind it is.
func Terms(d *api.Decl) []*api.Term {
	l := []*api.Term{&d.Type, &d.Value}
	for i := range d.Inds {
		x := &d.Inds[i]
		l = append(l, &x.Type)
		for j := range x.Ctors {
			l = append(l, &x.Ctors[j].Type)
		}
	}
	return l
}

// Names: where the names that a declaration gives stand, of whichever kind it is.
func Names(d *api.Decl) []*string {
	l := []*string{&d.Name}
	for i := range d.Inds {
		x := &d.Inds[i]
		l = append(l, &x.Name)
		for j := range x.Ctors {
			l = append(l, &x.Ctors[j].Name)
		}
	}
	return l
}

// Undeclared: terms that may be, but not in a declaration: too great, too deep, or with a level that is.
func Undeclared() []api.Term {
	out := []api.Term{OfSize(api.MaxTerm + 1), OfSize(api.TopTerm)}
	for _, l := range []api.Level{
		Great,
		{C: api.MaxLevel + 1, P: Zero.P},
		{P: [api.MaxParams]int{api.MaxLevel + 1, -1, -1, -1}},
		{P: [api.MaxParams]int{-1, -1, 0, api.MaxLevel + 1}},
		{C: api.TopLevel, P: Zero.P},
	} {
		out = append(out, Sort(l), Const("A", Zero, l), Let(Var(0), Var(0), Proj("S", 0, Sort(l))))
	}
	for _, step := range Steps() {
		out = append(out, OfDepth(api.MaxDepth+1, Var(0), step))
	}
	return append(out, OfDepth(api.TopDepth, Var(0), Steps()[1]))
}

// BadDecls may not be: made of each of those that may, with one thing that may not.
func BadDecls() []api.Decl {
	out := []api.Decl{{}, Block(0, 0)}
	turned := func(d api.Decl, turn func(*api.Decl)) {
		d = CloneDecl(d)
		turn(&d)
		out = append(out, d)
	}
	for _, d := range []api.Decl{Axiom(1, "a", Var(0)), Def(1, "d", Var(0), Var(1)), Theorem(1, "t", Var(0), Var(1)), Numbers()} {
		for _, k := range []uint8{0, 5, 255} {
			turned(d, func(x *api.Decl) { x.Kind = k })
		}
		for _, n := range []int{-1, math.MinInt, api.MaxParams + 1, math.MaxInt} {
			turned(d, func(x *api.Decl) { x.Params = n })
		}
		for _, n := range []int{-1, math.MinInt, api.MaxArgs + 1, math.MaxInt} {
			turned(d, func(x *api.Decl) { x.Fixed = n })
		}
		for i := range Names(&d) {
			for _, s := range []string{Name33, "a-b", "a b", "\x00", "n\u00e4me"} {
				turned(d, func(x *api.Decl) { *Names(x)[i] = s })
			}
		}
		for i := range Terms(&d) {
			for _, t := range append(Undeclared(), Bads()...) {
				if !IsZero(t) {
					turned(d, func(x *api.Decl) { *Terms(x)[i] = t })
				}
			}
		}
	}
	return append(out, wrongFields()...)
}

// wrongFields: declarations without a field of their kind, with one of another kind, or with lists that are too long.
func wrongFields() []api.Decl {
	v, ind := Var(0), Ind("N", Sort(Zero))
	types := func(n int) []api.Ind { return slices.Repeat([]api.Ind{ind}, n) }
	ctors := func(n int) []api.Ctor { return slices.Repeat([]api.Ctor{Ctor("c", v)}, n) }
	out := []api.Decl{
		{Kind: api.Axiom}, {Kind: api.Def}, {Kind: api.Theorem}, {Kind: api.Block},
		Axiom(0, "", v), Axiom(0, "a", api.Term{}),
		Def(0, "", v, v), Def(0, "d", api.Term{}, v), Def(0, "d", v, api.Term{}),
		Theorem(0, "", v, v), Theorem(0, "t", api.Term{}, v), Theorem(0, "t", v, api.Term{}),
		Block(0, 0, types(api.MaxTypes+1)...), Block(0, 0, types(1<<12)...),
		Block(0, 0, ind, Ind("N", v, ctors(api.MaxCtors+1)...)), Block(0, 0, Ind("N", v, ctors(1<<12)...)),
		Block(0, 0, Ind("", v)), Block(0, 0, Ind("N", api.Term{})), Block(0, 0, api.Ind{}), Block(0, 0, ind, api.Ind{}),
		Block(0, 0, Ind("N", v, Ctor("", v))), Block(0, 0, Ind("N", v, Ctor("c", api.Term{}))), Block(0, 0, Ind("N", v, Ctor("c", v), api.Ctor{})),
	}
	for _, d := range []api.Decl{Axiom(0, "a", v), Def(0, "d", v, v), Theorem(0, "t", v, v)} {
		fixed, inds, none := d, d, d
		fixed.Fixed, inds.Inds, none.Inds = 1, types(1), []api.Ind{{}}
		out = append(out, fixed, inds, none)
	}
	for _, t := range []api.Term{v, {K: 9}, {N: 1}, {N: -1}, {S: "a"}, {Ls: []api.Level{{}}}, {T: []api.Term{{}}}} {
		value, kind, of := Axiom(0, "a", v), Block(0, 0, ind), Block(0, 0, ind)
		value.Value, kind.Type, of.Value = t, t, t
		out = append(out, value, kind, of)
	}
	name := Block(0, 0, ind)
	name.Name = "N"
	return append(out, name)
}

// DeclText tells a declaration apart from all others, nil lists as empty ones.
func DeclText(d api.Decl) string {
	b := strconv.AppendInt(nil, int64(d.Kind), 10)
	b = strconv.AppendInt(append(b, ' '), int64(d.Params), 10)
	b = appendNamed(b, d.Name, d.Type)
	b = appendText(append(b, ':'), d.Value)
	b = strconv.AppendInt(append(b, ' '), int64(d.Fixed), 10)
	for _, x := range d.Inds {
		b = appendNamed(append(b, '|'), x.Name, x.Type)
		for _, c := range x.Ctors {
			b = appendNamed(append(b, '+'), c.Name, c.Type)
		}
	}
	return string(b)
}

func appendNamed(b []byte, s string, t api.Term) []byte {
	return appendText(strconv.AppendQuote(append(b, ' '), s), t)
}

// CloneDecl: the same declaration with lists of its own; its terms are shared.
func CloneDecl(d api.Decl) api.Decl {
	d.Inds = slices.Clone(d.Inds)
	for i := range d.Inds {
		d.Inds[i].Ctors = slices.Clone(d.Inds[i].Ctors)
	}
	return d
}
