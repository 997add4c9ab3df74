package equal

import (
	"slices"
	"testing"

	"batten/api"
	"batten/level"
	"batten/reduce"
	"batten/sample"
)

// P13.1: heads, at levels, and what they are applied to; and what one term becomes.

// levels: of each list all are the same, written otherwise, or come to in another way.
func levels(t *testing.T) [][]api.Level {
	t.Helper()
	made := func(l api.Level, f api.Errno) api.Level {
		if f != api.OK {
			t.Fatalf("error %d", f)
		}
		return l
	}
	u, v := made(level.Param(0)), made(level.Param(1))
	up := func(l api.Level) api.Level { return made(level.Succ(l)) }
	most := func(l, m api.Level) api.Level { return made(level.Max(l, m)) }
	inst := func(l api.Level, by ...api.Level) api.Level { return made(level.Inst(l, by)) }
	one := up(level.Zero())
	return [][]api.Level{
		{level.Zero(), zero, most(zero, zero), inst(u, zero)},
		{one, sample.Number(1), most(one, zero), most(zero, one), inst(up(u), zero), inst(most(u, v), one, zero)},
		{two, up(one), most(one, two), inst(up(u), one)},
		{u, sample.P(0, 0), most(u, u), most(u, zero), inst(v, zero, u)},
		{v, most(v, v), inst(u, v)},
		{up(u), sample.P(0, 1), most(up(u), one), most(one, up(u)), most(up(u), u), inst(up(v), u, u)},
		{most(u, v), most(v, u), most(most(u, v), u), inst(most(u, v), v, u), inst(u, most(v, u))},
		{most(u, one), most(one, u), inst(most(v, one), u, u)},
		{up(most(u, v)), most(up(u), up(v)), most(up(v), up(u)), inst(up(u), most(u, v))},
		{most(up(u), v), most(v, up(u)), inst(most(u, v), up(u), v)},
		{most(up(u), two), inst(up(u), most(u, one)), up(most(u, one))},
		{sample.Number(api.TopLevel), inst(u, sample.Number(api.TopLevel))},
		{sample.P(3, api.TopLevel)},
	}
}

// Levels that are the same written otherwise, and levels that are not: of sorts, of names, below binders and in arguments.
func TestLevels(t *testing.T) {
	e := basis(t, def(1, "sort", srt(sample.P(0, 2)), srt(sample.P(0, 1))), def(2, "most", srt(sample.P(0, 2)), srt(api.Level{P: [api.MaxParams]int{0, 0, -1, -1}})))
	all := levels(t)
	for i, l := range all {
		for j, m := range all {
			for _, x := range l {
				for _, y := range m {
					want := told(i == j)
					holds(t, "a sort", e, srt(x), srt(y), want)
					holds(t, "sorts in functions", e, pi(srt(x), srt(zero)), pi(srt(y), srt(zero)), want)
					holds(t, "sorts below binders", e, lam(n, pi(n, srt(x))), lam(n, pi(n, srt(y))), want)
					holds(t, "a name", e, con("Pair", x, two), con("Pair", y, two), want)
					holds(t, "a name, applied", e, apply(con("List.nil", x), n), apply(con("List.nil", y), n), want)
					holds(t, "a name's last one", e, con("none", zero, two, zero, x), con("none", zero, two, zero, y), want)
					holds(t, "what is stuck", e, apply(con("N.rec", x), n, n, n, a), apply(con("N.rec", y), n, n, n, a), want)
					holds(t, "in an argument", e, app(vr(0), con("swap", x)), app(vr(0), con("swap", y)), want)
					holds(t, "by a definition", e, con("most", x, zero), con("most", zero, y), want)
				}
			}
		}
	}
	for k := range 5 {
		number := sample.Number(k)
		same(t, "by a definition", e, con("sort", number), srt(sample.Number(k+1)))
		other(t, "by a definition", e, con("sort", number), srt(number))
		same(t, "by two", e, con("sort", number), con("most", sample.Number(k+1), number))
		same(t, "ids at levels", e, apply(con("id", number), n, a), apply(con("id", two), n, a))
		holds(t, "ids at levels", e, con("id", number), con("id", two), told(k == 2))
	}
	fewer := [][]api.Level{nil, {zero}, {zero, zero}, {zero, zero, zero}, {two, zero, zero}, {zero, two, zero}, {zero, zero, two}}
	for i, l := range fewer {
		for j, m := range fewer {
			for _, name := range []string{"none", "Pair", "N.rec", "Pair.mk"} {
				holds(t, name+", of fewer levels", e, con(name, l...), con(name, m...), told(i == j))
				holds(t, name+", of fewer levels, applied", e, app(con(name, l...), a), app(con(name, m...), a), told(i == j))
			}
		}
	}
}

// The same head with fewer, more and other arguments, in each place of them.
func TestArguments(t *testing.T) {
	e := basis(t, sample.Strangers()...)
	l := []api.Term{a, con("one"), vr(2), lam(n, app(f, vr(0))), id(a), n, num(1)}
	for what, h := range map[string]api.Term{
		"an axiom": f, "a variable": vr(0), "a sort": srt(zero), "functions": pi(n, n), "a field": first(p), "a type": con("Pair", zero, zero), "none": con("none"),
		"a constructor": con("Pair.mk", zero, zero), "a list's": con("List.cons", zero), "a structure without fields": con("Other"), "a recursor": con("Other.rec"),
		"what is stuck": apply(recN, n, n, n, vr(5)), "a theorem": con("th"), "a definition at levels": con("one", two), "a projection of none": prj("P", 3, vr(0)),
	} {
		for from := range l {
			for to := from; to <= len(l); to++ {
				x := apply(h, l[from:to]...)
				same(t, what, e, x, apply(h, l[from:to]...))
				other(t, what+", one more", e, x, app(x, a))
				if to == from {
					continue
				}
				other(t, what+", one fewer", e, x, apply(h, l[from:to-1]...))
				for i := range to - from {
					m := slices.Clone(l[from:to])
					m[i] = con("other")
					other(t, what+", another", e, x, apply(h, m...))
					m[i] = id(l[from+i])
					same(t, what+", by a step", e, x, apply(h, m...))
				}
				if to > from+1 {
					m := slices.Clone(l[from:to])
					m[0], m[1] = m[1], m[0]
					other(t, what+", the other way round", e, x, apply(h, m...))
				}
			}
		}
	}
	for what, c := range map[string][2]api.Term{
		"of another name":        {app(f, a), app(con("g"), a)},
		"of another kind":        {app(f, a), app(vr(0), a)},
		"of another variable":    {app(vr(1), a), app(vr(0), a)},
		"of another field":       {app(first(p), a), app(second(p), a)},
		"of another structure":   {app(first(p), a), app(prj("Other", 0, p), a)},
		"a field of another":     {app(first(p), a), app(first(vr(0)), a)},
		"other functions":        {app(pi(n, n), a), app(pi(n, a), a)},
		"functions from others":  {app(pi(n, n), a), app(pi(a, n), a)},
		"another order":          {apply(f, a, n), apply(f, n, a)},
		"one within the other":   {app(f, app(f, a)), apply(f, f, a)},
		"another major argument": {count(vr(0)), count(vr(1))},
		"another minor one":      {apply(recN, n, a, n, vr(0)), apply(recN, n, n, n, vr(0))},
		"another motive":         {apply(recN, n, n, n, vr(0)), apply(recN, a, n, n, vr(0))},
	} {
		other(t, what, e, c[0], c[1])
		other(t, what+", below binders", e, lam(n, pi(n, c[0])), lam(n, pi(n, c[1])))
	}
}

// Terms of which one is another's definition, weak head or normal form, or is it by one more step.
func TestWhatATermBecomes(t *testing.T) {
	e := basis(t)
	l := sample.Redexes()
	for _, c := range sample.Sums() {
		l = append(l, c.X)
	}
	for _, c := range sample.Unformed() {
		l = append(l, c.X)
	}
	for name := range map[string]bool{"add": true, "one": true, "double": true} {
		x, _ := e.Value(con(name))
		same(t, "a definition", e, con(name), x)
		same(t, "a definition, applied", e, apply(con(name), a, n), apply(x, a, n))
		l = append(l, x)
	}
	for _, x := range l {
		g := formOf(e, x, 2000)
		w, _, _ := reduce.Head(e, x, 2000)
		same(t, "a weak head", e, x, w)
		same(t, "a normal form", e, x, g.n)
		same(t, "both", e, w, g.n)
		same(t, "by one more lambda", e, app(lam(n, vr(0)), x), x)
		same(t, "by a let", e, let(n, x, vr(0)), id(x))
		same(t, "in a let, and below", e, lam(n, let(n, lifted(x), app(vr(1), vr(0)))), lam(n, app(vr(0), lifted(g.n))))
		other(t, "one more", e, succ(x), g.n)
		other(t, "in a lambda", e, lam(n, lifted(x)), g.n)
	}
}
