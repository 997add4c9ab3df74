package normal

import (
	"testing"

	"batten/api"
	"batten/sample"
)

// P10.1: what is contracted, and what is not.

// What fits is contracted, again and again; where one thing is another one it stays.
func TestContracted(t *testing.T) {
	e := basis(t, sample.Strangers()...)
	for what, c := range sample.Contracted() {
		becomes(t, what, e, c.X, c.Want, c.Steps)
		becomes(t, what+", within a lambda", e, lam(n, lifted(c.X)), lam(n, lifted(c.Want)), c.Steps)
		becomes(t, what+", within functions", e, pi(app(f, c.X), lifted(c.X)), pi(app(f, c.Want), lifted(c.Want)), 2*c.Steps)
		becomes(t, what+", within both", e, apply(f, c.X, pi(n, lifted(c.X))), apply(f, c.Want, pi(n, lifted(c.Want))), 2*c.Steps)
	}
	becomes(t, "the other one's own", e, apply(con("Other.mk"), prj("Other", 0, p), prj("Other", 1, p)), p, 0)
	deep := vr(0)
	for range 1000 {
		deep = lam(n, app(vr(1), deep))
	}
	becomes(t, "a variable, longer", e, app(f, app(lam(n, deep), vr(6))), app(f, vr(6)), 1)
}

func TestTheFarthestVariable(t *testing.T) {
	e := basis(t)
	becomes(t, "in a lambda", e, lam(n, app(vr(sample.Far), vr(0))), vr(sample.Far-1), 0)
	becomes(t, "in two", e, lam(n, lam(n, apply(f, lam(n, vr(sample.Far)), vr(1), vr(0)))), app(f, lam(n, vr(sample.Far-2))), 0)
	stays(t, "beside it", e, lam(n, apply(vr(sample.Far), vr(0), vr(sample.Far))))
}

// Structures of any number of fields; of none there is nothing that they are fields of.
func TestStructuresOfOtherSizes(t *testing.T) {
	fields := func(s string, of int, y api.Term) []api.Term {
		var l []api.Term
		for i := range of {
			l = append(l, prj(s, i, y))
		}
		return l
	}
	for _, fixed := range []int{0, 1, 3} {
		for of := range api.MaxArgs + 2 {
			e := basis(t,
				api.Info{Kind: api.IsType, Name: "S", Type: srt(zero), Record: true},
				api.Info{Kind: api.IsCtor, Name: "S.mk", Type: n, Of: "S", Fixed: fixed, Fields: of},
			)
			ahead := apply(con("S.mk"), []api.Term{first(p), second(p), prj("S", 0, p)}[:fixed]...)
			switch {
			case of == 0:
				stays(t, "of none", e, ahead)
				stays(t, "of none, and more", e, apply(ahead, prj("S", 0, p)))
			case of <= api.MaxArgs:
				becomes(t, "of so many", e, apply(ahead, fields("S", of, p)...), p, 0)
				stays(t, "one less", e, apply(ahead, fields("S", of-1, p)...))
				stays(t, "one more", e, apply(ahead, append(fields("S", of, p), first(p))...))
				if of > 1 {
					stays(t, "of another one at last", e, apply(ahead, append(fields("S", of-1, p), prj("S", of-1, f))...))
					stays(t, "of another one at first", e, apply(ahead, append([]api.Term{prj("S", 0, f)}, fields("S", of, p)[1:]...)...))
				}
			}
		}
	}
}

// A structure has just one constructor, that of rules.Record.
func TestTheConstructorOfAStructure(t *testing.T) {
	structure := api.Info{Kind: api.IsType, Name: "S", Type: srt(zero), Record: true}
	ctor := func(kind uint8, name, of string) api.Info {
		return api.Info{Kind: kind, Name: name, Type: n, Of: of, Fields: 1}
	}
	field := prj("S", 0, vr(0))
	e := basis(t, structure, ctor(api.IsAxiom, "S.a", "S"), ctor(api.IsRec, "S.r", "S"), ctor(api.IsType, "S.t", "S"), ctor(api.IsCtor, "S.mk", "S"), ctor(api.IsCtor, "S.b", "S"), ctor(api.IsCtor, "T.mk", "T"))
	becomes(t, "it", e, app(con("S.mk"), field), vr(0), 0)
	for _, s := range []string{"S.a", "S.r", "S.t", "S.b", "T.mk", "S"} {
		stays(t, s, e, app(con(s), field))
	}
	for what, kind := range map[string]uint8{"an axiom": api.IsAxiom, "a constructor": api.IsCtor, "a recursor": api.IsRec} {
		structure.Kind = kind
		e = basis(t, structure, ctor(api.IsCtor, "S.mk", "S"))
		stays(t, what, e, app(con("S.mk"), field))
	}
	e = basis(t, ctor(api.IsCtor, "S.mk", "S"))
	stays(t, "of nothing", e, app(con("S.mk"), field))
}
