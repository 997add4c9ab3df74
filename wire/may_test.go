package wire

import (
	"strings"
	"testing"

	"batten/api"
	"batten/sample"
)

// P6.1

func TestMayOfThoseThatMay(t *testing.T) {
	for i, d := range sample.Decls() {
		if !May(d) || !mayBe(d) {
			t.Errorf("the one %d, of kind %d, may not be (%v by the words)", i, d.Kind, mayBe(d))
		}
		d.Inds = append([]api.Ind{}, d.Inds...)
		d.Value.T = append([]api.Term{}, d.Value.T...)
		d.Value.Ls = append([]api.Level{}, d.Value.Ls...)
		if !May(d) {
			t.Errorf("the one %d, with empty lists: may not be", i)
		}
	}
}

func TestMayOfThoseThatMayNot(t *testing.T) {
	l := sample.BadDecls()
	for i, d := range l {
		if May(d) {
			t.Errorf("the one %d of %d, of kind %d, may be", i, len(l), d.Kind)
		}
	}
}

// Each field of a kind may be as any other one of that kind, and no field of another kind may be other than zero.
func TestMayByFields(t *testing.T) {
	fields := []func(to, from *api.Decl){
		func(to, from *api.Decl) { to.Name = from.Name },
		func(to, from *api.Decl) { to.Type = from.Type },
		func(to, from *api.Decl) { to.Value = from.Value },
		func(to, from *api.Decl) { to.Fixed = from.Fixed },
		func(to, from *api.Decl) { to.Inds = from.Inds },
		func(to, from *api.Decl) { to.Params = from.Params },
	}
	all := sample.Decls()
	for _, d := range all {
		for _, from := range all {
			for bits := range 1 << len(fields) {
				x := d
				for i, f := range fields {
					if bits>>i&1 == 1 {
						f(&x, &from)
					}
				}
				want := x.Kind == from.Kind
				switch x.Kind {
				case api.Axiom:
					want = x.Name != "" && x.Type.K != 0 && x.Value.K == 0 && x.Fixed == 0 && len(x.Inds) == 0
				case api.Def, api.Theorem:
					want = x.Name != "" && x.Type.K != 0 && x.Value.K != 0 && x.Fixed == 0 && len(x.Inds) == 0
				case api.Block:
					want = x.Name == "" && x.Type.K == 0 && x.Value.K == 0 && len(x.Inds) > 0
				}
				if May(x) != want {
					t.Fatalf("kind %d with the fields %b of kind %d: %v", d.Kind, bits, from.Kind, !want)
				}
			}
		}
	}
}

// The numbers that have limits.
func TestMayUpToTheLimits(t *testing.T) {
	v := vr(0)
	types := func(n int) []api.Ind {
		var l []api.Ind
		for range n {
			l = append(l, ind("T", v))
		}
		return l
	}
	ctors := func(n int) []api.Ctor {
		var l []api.Ctor
		for range n {
			l = append(l, ctor("c", v))
		}
		return l
	}
	for n := -2; n < 300; n++ {
		within := func(what string, got bool, least, most int) {
			t.Helper()
			if got != (least <= n && n <= most) {
				t.Errorf("%s of %d: %v", what, n, got)
			}
		}
		within("Params", May(axiom(n, "a", v)), 0, 4)
		within("Params", May(def(n, "a", v, v)), 0, 4)
		within("Params", May(theorem(n, "a", v, v)), 0, 4)
		within("Params", May(block(n, 0, types(1)...)), 0, 4)
		within("Fixed", May(block(0, n, types(1)...)), 0, 12)
		within("the number of a Proj", May(axiom(0, "a", prj("S", n, v))), 0, 11)
		within("C", May(axiom(0, "a", srt(api.Level{C: n, P: zero.P}))), 0, 64)
		for i := range zero.P {
			l := zero
			l.P[i] = n
			within("P", May(axiom(0, "a", con("A", zero, l))), -1, 64)
		}
		if n < 0 {
			continue
		}
		within("types", May(block(0, 0, types(n)...)), 1, 3)
		within("constructors", May(block(0, 0, ind("T", v, ctors(n)...))), 0, 8)
		within("constructors", May(block(0, 0, append(types(2), ind("T", v, ctors(n)...))...)), 0, 8)
		within("bytes of a name", May(axiom(0, strings.Repeat("a", n), v)), 1, 32)
		within("levels of a Const", May(axiom(0, "a", con("A", make([]api.Level, n)...))), 0, 4)
		if n > 250 {
			for _, step := range sample.Steps() {
				within("nodes in one another", May(axiom(0, "a", sample.OfDepth(n, v, step))), 1, 256)
			}
		}
	}
	for n := 4090; n < 4105; n++ {
		for i, d := range []api.Decl{axiom(0, "a", sample.OfSize(n)), def(0, "a", v, sample.OfSize(n)), block(0, 0, ind("T", v, ctor("c", sample.OfSize(n))))} {
			if May(d) != (n <= 4096) {
				t.Errorf("%d nodes, the one %d: %v", n, i, May(d))
			}
		}
	}
	for _, n := range []int{1 << 20, 1<<20 + 1} {
		if May(axiom(0, "a", vr(n))) != (n == 1<<20) {
			t.Errorf("Var %d", n)
		}
	}
}
