package quote

import (
	"testing"

	"batten/api"
	"batten/env"
	"batten/sample"
	"batten/term"
	"batten/values"
)

// waits: a term's value, as what waits under so many binders.
func waits(t *testing.T, e *env.Env, x api.Term, under int) values.Part {
	t.Helper()
	v, _, f := values.Of(e, x, 10000)
	if f != api.OK {
		t.Fatalf("error %d: %s", f, text(x))
	}
	return v.Part(under)
}

// Two that wait are the same, if their forms are; how many nodes the first one has is told, too, and just what both take is taken.
func TestSame(t *testing.T) {
	e := basis(t)
	for i, l := range sample.Kin() {
		for _, x := range l {
			for j, m := range sample.Kin() {
				for _, y := range m {
					for _, under := range []int{0, 3} {
						p, q := waits(t, e, x.X, under), waits(t, e, y.X, under)
						k := taken(t, e, p) + taken(t, e, q)
						maker := values.NewMaker(k + 5)
						nodes, same, is := Same(e, maker, p, q)
						want, _, _ := Form(e, x.X, 1000)
						if !is || same != (i == j) || nodes != term.Size(want) || maker.Left() != 5 {
							t.Fatalf("%t, %t, %d nodes, left %d: %s, %s", is, same, nodes, maker.Left(), text(x.X), text(y.X))
						}
						if k > 0 {
							if nodes, same, is := Same(e, values.NewMaker(k-1), p, q); nodes != 0 || same || is {
								t.Fatalf("one less: %d, %t, %t", nodes, same, is)
							}
						}
					}
				}
			}
		}
	}
}

// taken: how many steps the form of what waits takes.
func taken(t *testing.T, e *env.Env, p values.Part) int {
	t.Helper()
	m := values.NewMaker(1000)
	if _, is := read(e, m, p); !is {
		t.Fatal("no form")
	}
	return 1000 - m.Left()
}

// Under binders variables are those that these bind, and the free ones behind them.
func TestSameUnderBinders(t *testing.T) {
	e := basis(t)
	bodies := func(x api.Term) values.Part {
		v, _, _ := values.Of(e, x, 10)
		_, own := v.Head().Read(0)
		return own[1]
	}
	l := []api.Term{vr(0), vr(1), app(vr(1), vr(0)), lam(n, apply(vr(0), vr(1), vr(2))), both(vr(0)), lam(n, app(vr(1), vr(0))), lam(n, app(vr(2), vr(0)))}
	want := []int{0, 1, 2, 3, 0, 0, 1}
	for i, x := range l {
		for j, y := range l {
			_, same, is := Same(e, values.NewMaker(0), bodies(lam(n, x)), bodies(pi(a, y)))
			if !is || same != (want[i] == want[j]) {
				t.Errorf("%t, %t: %s, %s", is, same, text(x), text(y))
			}
		}
	}
	v, _, _ := values.Of(e, f, 0)
	if _, same, is := Same(e, values.NewMaker(0), bodies(lam(n, app(f, vr(0)))), v.Longer(0)); !same || !is {
		t.Errorf("a longer one: %t, %t", same, is)
	}
}

// What goes out, is too great, or is no part.
func TestSameOfNoForm(t *testing.T) {
	e := basis(t, sample.Loose())
	good := waits(t, e, num(2), 0)
	none := func(what string, m *values.Maker, p, q values.Part) {
		t.Helper()
		if nodes, same, is := Same(e, m, p, q); nodes != 0 || same || is {
			t.Errorf("%s: %d, %t, %t", what, nodes, same, is)
		}
	}
	for what, x := range sample.EndlessForms() {
		bad := waits(t, e, app(f, x), 0)
		for _, fuel := range []int{0, 1, 1000} {
			none(what, values.NewMaker(fuel), good, bad)
			none(what, values.NewMaker(fuel), bad, good)
		}
	}
	m := values.NewMaker(10)
	far := waits(t, e, vr(sample.Far), 1)
	none("farther than may be", m, far, good)
	none("farther than may be", m, good, far)
	if m.Left() != 10 {
		t.Errorf("left %d", m.Left())
	}
	none("no part", m, values.Part{}, good)
	none("no part", m, good, values.Part{})
	none("no maker", nil, good, good)
}
