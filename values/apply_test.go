package values

import (
	"math"
	"testing"

	"batten/api"
	"batten/env"
	"batten/sample"
)

// P11.2: values, applied.

// of: the value of a term.
func of(t *testing.T, e *env.Env, x api.Term) *Value {
	t.Helper()
	v, _, f := Of(e, x, 1<<20)
	if f != api.OK {
		t.Fatalf("error %d: %.300s", f, text(x))
	}
	return v
}

func TestApply(t *testing.T) {
	e := basis(t)
	more := lam(n, lam(n, succ(vr(0))))
	rec := apply(recN, lam(n, n), num(0), more) // of one more: a rule of 5 steps, and 2 of what it is told to do
	for what, c := range map[string]struct {
		x, y  api.Term
		want  is
		steps int
	}{
		"a function":                    {lam(n, vr(0)), a, is{api.Const, "a", 0}, 1},
		"a function of nothing":         {lam(n, a), vr(0), is{api.Const, "a", 0}, 1},
		"a function of a function":      {lam(unary, app(vr(0), a)), lam(n, app(f, vr(0))), is{api.Const, "f", 1}, 2},
		"a function of an axiom":        {lam(unary, app(vr(0), a)), f, is{api.Const, "f", 1}, 1},
		"a function to functions":       {lam(n, lam(n, vr(1))), a, is{api.Lam, "", 0}, 1},
		"a function to types":           {lam(n, pi(n, n)), a, is{api.Pi, "", 0}, 1},
		"a function to sorts":           {lam(n, srt(two)), a, is{api.Sort, "", 0}, 1},
		"a function to a free variable": {lam(n, vr(5)), a, is{api.Var, "", 0}, 1},
		"a function of a free variable": {lam(n, apply(vr(1), vr(0), vr(2))), vr(8), is{api.Var, "", 2}, 1},
		"a function of a field":         {lam(couple, first(vr(0))), p, is{api.Proj, "Pair", 0}, 1},
		"a function of a pair's field":  {lam(couple, first(vr(0))), mk(id(a), a), is{api.Const, "a", 0}, 1 + 1 + 3},
		"a function by a let":           {let(n, a, lam(n, apply(f, vr(0), vr(1)))), num(0), is{api.Const, "f", 2}, 1},
		"what is looked at once more":   {lam(n, add(vr(0), vr(0))), add(num(1), num(0)), is{api.Const, "N.succ", 1}, 1 + 3 + 7},
		"a definition":                  {con("double"), con("one"), is{api.Const, "N.succ", 1}, 1 + 3 + 7},
		"a definition of two":           {con("add"), num(1), is{api.Lam, "", 0}, 1},
		"the second of two":             {app(con("add"), num(1)), num(0), is{api.Const, "N.succ", 1}, 1 + 4},
		"a definition at a level":       {con("id", two), srt(zero), is{api.Lam, "", 0}, 1},
		"that, of another":              {app(con("id", zero), n), add(a, num(0)), is{api.Const, "a", 0}, 1},
		"a swap":                        {apply(con("swap", zero, zero), n, n), mk(a, a), is{api.Const, "Pair.mk", 4}, 1},
		"a constructor":                 {con("N.succ"), con("one"), is{api.Const, "N.succ", 1}, 0},
		"a structure's":                 {apply(con("Pair.mk", zero, zero), n, n, a), id(a), is{api.Const, "Pair.mk", 4}, 0},
		"a list's":                      {apply(con("List.cons", zero), n, a), row(), is{api.Const, "List.cons", 3}, 0},
		"a type":                        {con("List", zero), n, is{api.Const, "List", 1}, 0},
		"an axiom":                      {f, num(1), is{api.Const, "f", 1}, 0},
		"a variable":                    {vr(3), con("one"), is{api.Var, "", 1}, 0},
		"a variable, applied":           {app(vr(3), a), con("one"), is{api.Var, "", 2}, 0},
		"a recursor of nothing":         {recN, lam(n, n), is{api.Const, "N.rec", 1}, 0},
		"a recursor at 0":               {rec, num(0), is{api.Const, "N.zero", 0}, 4},
		"a recursor at 2":               {rec, num(2), is{api.Const, "N.succ", 1}, 7},
		"a recursor at a sum":           {rec, add(num(0), num(1)), is{api.Const, "N.succ", 1}, 7},
		"a recursor at one less":        {lam(n, apply(recN, lam(n, n), num(0), lam(n, lam(n, vr(1))), vr(0))), add(num(1), num(1)), is{api.Const, "N.succ", 1}, 1 + 5 + 2 + 4},
		"a recursor at an axiom":        {rec, a, is{api.Const, "N.rec", 4}, 0},
		"a recursor at a variable":      {rec, app(vr(2), a), is{api.Const, "N.rec", 4}, 0},
		"a recursor, which has looked":  {count(a), num(0), is{api.Const, "N.rec", 5}, 0},
		"a recursor to functions":       {apply(recN, lam(n, unary), f, lam(n, lam(unary, vr(0))), num(2)), a, is{api.Const, "f", 1}, 0},
		"a structure's recursor":        {apply(con("Pair.rec", zero, zero, zero), n, n, n, lam(n, lam(n, vr(0)))), mk(a, num(0)), is{api.Const, "N.zero", 0}, 1 + 2 + 1},
		"a list's recursor":             {sum(vr(0)).T[0], row(), is{api.Const, "N.zero", 0}, 5},
		"a projection":                  {first(p), a, is{api.Proj, "Pair", 1}, 0},
		"a field":                       {first(mk(lam(n, vr(0)), a)), a, is{api.Const, "a", 0}, 1},
		"a theorem":                     {app(con("none"), a), a, is{api.Const, "none", 2}, 0},
		"a sort":                        {srt(zero), a, is{api.Sort, "", 1}, 0},
		"functions":                     {pi(n, n), a, is{api.Pi, "", 1}, 0},
	} {
		v, u := of(t, e, c.x), of(t, e, c.y)
		stands(t, what, e, applied(t, what, v, u, c.want, c.steps), app(c.x, c.y))
		applies(t, e, c.x, c.y, 100)
		stands(t, what, e, v, c.x)
		stands(t, what, e, u, c.y)
	}
}

// One behind the other: to each one more, till all are there, be it at once or not.
func TestApplyOneBehindTheOther(t *testing.T) {
	e := basis(t)
	three := lam(n, lam(n, lam(n, apply(f, vr(2), vr(1), vr(0)))))
	for _, l := range [][]api.Term{
		{three, num(1), vr(0), a, p},
		{con("add"), con("one"), add(num(1), num(1))},
		{con("Pair.mk", zero, zero), n, n, id(a), swap(p)},
		{con("swap", zero, zero), n, couple, mk(a, p)},
		{recN, lam(n, n), num(0), lam(n, lam(n, succ(vr(0)))), add(num(1), a)},
		{recN, lam(n, n), num(0), lam(n, lam(n, succ(vr(0)))), add(a, num(1)), num(1), vr(2)},
		{con("List.rec", zero, zero), n, n, num(0), lam(n, lam(n, lam(n, add(vr(0), vr(2))))), row(num(1), con("one"))},
		{con("id", two), srt(zero), unary, a, a},
		{vr(1), id(a), vr(1), vr(0), con("one")},
		{second(vr(0)), id(a), first(mk(a, a)), n},
		{lam(n, apply(vr(0), vr(1), vr(2))), lam(n, lam(n, apply(vr(1), vr(0), vr(2)))), con("one")},
	} {
		v := of(t, e, l[0])
		x := l[0]
		for i, y := range l[1:] {
			u, _, f := v.Apply(of(t, e, y), 1000)
			if f != api.OK {
				t.Fatalf("%s: error %d", text(x), f)
			}
			stands(t, "the one", e, v, x)
			v, x = u, app(x, y)
			stands(t, "and one more", e, v, x)
			applies(t, e, x.T[0], y, 500)
			for j := range i { // the last ones at once
				part := apply(l[0], l[1:i+1-j]...)
				w := of(t, e, part)
				for _, z := range l[i+1-j : i+2] {
					w, _, _ = w.Apply(of(t, e, z), 1000)
				}
				if tells(w) != tells(v) {
					t.Fatalf("%s: %v, one by one %v", text(x), tells(w), tells(v))
				}
			}
		}
	}
}

// Free variables stand for themselves, whatever is between: in a function, in what it is applied to, and in what waits in both.
func TestFreeVariables(t *testing.T) {
	e := basis(t)
	inner := lam(n, apply(vr(0), vr(1), vr(2), lam(n, apply(vr(0), vr(1), vr(2), vr(3))))) // of the free variables 0 and 1
	for _, c := range []struct{ x, want api.Term }{
		{app(inner, vr(5)), apply(vr(5), vr(0), vr(1), lam(n, apply(vr(0), vr(6), vr(1), vr(2))))},
		{apply(lam(unary, lam(n, apply(vr(3), app(vr(1), vr(0))))), lam(n, apply(vr(0), vr(1))), vr(9)), app(vr(1), app(vr(9), vr(0)))},
		{apply(lam(unary, lam(n, lam(n, apply(vr(2), vr(1), vr(3))))), vr(4), vr(0)), lam(n, apply(vr(5), vr(1), vr(1)))},
		{let(n, vr(4), lam(vr(0), apply(vr(1), vr(0), vr(2)))), lam(vr(4), apply(vr(5), vr(0), vr(1)))},
		{first(mk(lam(n, vr(3)), a)), lam(n, vr(3))},
		{app(lam(n, count(vr(0))), vr(0)), count(vr(0))},
		{app(lam(n, pi(vr(0), second(vr(1)))), vr(7)), pi(vr(7), second(vr(8)))},
	} {
		stands(t, text(c.x), e, of(t, e, c.x), c.want)
		stands(t, text(c.x), e, of(t, e, c.x), c.x)
		if c.x.K == api.App {
			applies(t, e, c.x.T[0], c.x.T[1], 100)
		}
	}
}

// As many as there may be, and one more, which is too great however much fuel there is.
func TestApplyToAsManyAsMayBe(t *testing.T) {
	e := basis(t)
	for _, h := range []api.Term{f, vr(2), recN, second(p), srt(zero)} {
		v, u := of(t, e, h), of(t, e, a)
		for i := range api.TopDepth - 1 {
			w, left, g := v.Apply(u, 5)
			if g == api.ErrFuel { // a projection is deep itself, or a recursor has looked
				t.Fatalf("%s: the %d-th", text(h), i)
			}
			some(t, "one more", w, left, g, is{v.Kind(), v.Name(), i + 1}, 5)
			v = w
		}
		for _, fuel := range []int{0, 1, math.MaxInt} {
			w, left, g := v.Apply(u, fuel)
			none(t, "too many", w, left, g, api.ErrFuel)
		}
		if v.Args() != api.TopDepth-1 {
			t.Errorf("%d", v.Args())
		}
	}
}

// What is of one environment is applied to what is of another one, which has more: each name is what it is where it comes from.
func TestApplyOfTwoEnvironments(t *testing.T) {
	e := basis(t)
	other, g := e.With(def(0, "late", n, add(num(1), num(1))), def(0, "lately", unary, lam(n, succ(vr(0)))))
	if g != api.OK {
		t.Fatalf("error %d", g)
	}
	pair := mk(con("late"), app(con("lately"), con("late")))
	for _, x := range []api.Term{lam(couple, first(vr(0))), lam(couple, count(second(vr(0)))), con("swap", zero, zero), lam(couple, apply(vr(1), vr(0)))} {
		if x.K == api.Const {
			x = apply(x, n, n)
		}
		r, _, g := of(t, e, x).Apply(of(t, other, pair), 200)
		if g != api.OK {
			t.Fatalf("error %d", g)
		}
		stands(t, text(x), other, r, app(x, pair))
	}
	for _, y := range []api.Term{con("one"), add(num(1), a), vr(0)} {
		r, _, g := of(t, other, con("lately")).Apply(of(t, e, y), 200)
		if g != api.OK {
			t.Fatalf("error %d", g)
		}
		stands(t, text(y), other, r, app(con("lately"), y))
	}
	e.Add(axiom(0, "late", n)) // another one, where that is none
	some := of(t, e, lam(n, mk(con("late"), vr(0))))
	r, _, _ := some.Apply(of(t, other, pair), 200)
	if r.Kind() != api.Const || r.Args() != 4 {
		t.Fatalf("%v", tells(r))
	}
	rd := readerOf(200)
	want := mk(con("late"), mk(num(2), num(3)))
	if got := rd.read(r, 0); text(got) != text(want) {
		t.Fatalf("%s", text(got))
	}
}

// One name that stands for two things, in two environments, in one call.
func TestApplyOfTwoMeanings(t *testing.T) {
	struc := func(fixed int) []api.Info {
		return []api.Info{
			{Kind: api.IsType, Name: "S", Type: srt(zero), Record: true}, {Kind: api.IsCtor, Name: "S.mk", Type: n, Of: "S", Fixed: fixed, Fields: 3 - fixed},
		}
	}
	e := basis(t, append(struc(1), def(0, "d", n, num(0)), api.Info{Kind: api.IsRec, Name: "r", Type: n, Minors: 1, Rules: []api.Rule{ruled("N.zero", 0, lam(n, vr(0)))}})...)
	other := basis(t, append(struc(2), def(0, "d", n, a), api.Info{Kind: api.IsRec, Name: "r", Type: n, Minors: 2, Rules: []api.Rule{ruled("N.zero", 0, lam(n, lam(n, vr(1))))}})...)
	alike := basis(t, api.Info{Kind: api.IsRec, Name: "r", Type: n, Minors: 1, Rules: []api.Rule{ruled("N.zero", 0, f)}})
	s := apply(con("S.mk"), con("d"), num(0), num(1))
	for what, c := range map[string]struct {
		in    *env.Env
		x, y  api.Term // x has a step of e, and behind it what y tells when it is applied to a
		want  api.Term
		steps int
	}{
		"a definition":            {other, apply(recN, n, app(vr(0), a), n, con("d")), lam(n, con("d")), a, 1 + 1 + 4 + 2},
		"a recursor of two":       {other, apply(con("r"), app(vr(0), a), num(0)), lam(n, apply(con("r"), a, n, num(0))), a, 1 + 2 + 1 + 3},
		"a recursor of too few":   {other, apply(con("r"), app(vr(0), a), num(0)), lam(n, apply(con("r"), a, con("one"))), apply(con("r"), a, con("one")), 1 + 2 + 1},
		"a rule":                  {alike, apply(con("r"), app(vr(0), a), num(0)), lam(n, apply(con("r"), a, num(0))), app(f, a), 1 + 2 + 1 + 1},
		"a field":                 {other, apply(prj("S", 0, apply(con("S.mk"), n, vr(0), n)), a), lam(n, prj("S", 0, s)), num(1), 1 + 1 + 1 + 1},
		"a field that is not one": {other, apply(prj("S", 1, apply(con("S.mk"), n, n, vr(0))), a), lam(n, prj("S", 1, s)), prj("S", 1, apply(con("S.mk"), a, num(0), num(1))), 1 + 1 + 1},
	} {
		r := applied(t, what, of(t, e, lam(n, c.x)), of(t, c.in, c.y), headOf(c.want), c.steps)
		stands(t, what, c.in, r, c.want)
	}
}

// Terms of types, grown, applied: functions of all forms to what they are of.
func TestApplyOfWhatHasAType(t *testing.T) {
	e := basis(t)
	done := 0
	for k := range 1200 {
		g := &sample.Typed{Bytes: sample.Bytes{B: sample.Scattered(k, 300)}}
		from, to := g.Type(1), g.Type(1)
		x := g.Term(pi(from, to), sample.Context(), 3)
		y := g.Term(from, sample.Context(), 3)
		if applies(t, e, x, y, 2000) != nil {
			done++
		}
	}
	if done < 600 {
		t.Errorf("%d only", done)
	}
}
