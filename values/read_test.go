package values

import (
	"math"
	"testing"

	"batten/api"
	"batten/sample"
	"batten/subst"
)

// What is read of a value, and made of what waits in it.

// Each kind of head is read as its node, the terms that it is made of, and what it is applied to.
func TestReadOfEachKind(t *testing.T) {
	e := basis(t)
	redex := id(vr(2))
	for what, c := range map[string]struct {
		x, node  api.Term
		own, all []api.Term // as they stand in x: of a Lam and a Pi the second one has the variable 0
	}{
		"a sort":             {srt(two), srt(two), nil, nil},
		"a sort, applied":    {apply(srt(sample.Great), redex, a), srt(sample.Great), nil, []api.Term{redex, a}},
		"a variable":         {app(vr(7), vr(3)), vr(7), nil, []api.Term{vr(3)}},
		"an axiom":           {app(f, redex), f, nil, []api.Term{redex}},
		"a constructor":      {mk(redex, a), con("Pair.mk", zero, zero), nil, []api.Term{n, n, redex, a}},
		"a name at levels":   {con("none", two, zero), con("none", two, zero), nil, nil},
		"a recursor":         {apply(recN, n, redex), recN, nil, []api.Term{n, redex}},
		"a stuck one":        {apply(recN, n, redex, f, a, p), recN, nil, []api.Term{n, redex, f, a, p}},
		"a lambda":           {lam(redex, apply(vr(0), vr(1), vr(3))), api.Term{K: api.Lam}, []api.Term{redex, apply(vr(0), vr(1), vr(3))}, nil},
		"a lambda of no use": {lam(n, redex), api.Term{K: api.Lam}, []api.Term{n, redex}, nil},
		"functions":          {pi(vr(0), app(vr(0), vr(1))), api.Term{K: api.Pi}, []api.Term{vr(0), app(vr(0), vr(1))}, nil},
		"functions, applied": {app(pi(n, vr(0)), redex), api.Term{K: api.Pi}, []api.Term{n, vr(0)}, []api.Term{redex}},
		"a field":            {prj("Pair", 1, vr(4)), prj("Pair", 1, api.Term{}), []api.Term{vr(4)}, nil},
		"a field, applied":   {apply(prj("N", 3, p), redex, a), prj("N", 3, api.Term{}), []api.Term{p}, []api.Term{redex, a}},
	} {
		c.node.T = nil
		v := of(t, e, c.x)
		node, own := v.Head().Read(0)
		if text(node) != text(c.node) {
			t.Fatalf("%s: %s, want %s", what, text(node), text(c.node))
		}
		m := NewMaker(100)
		reads := func(what string, l []Part, want []api.Term, binds bool) {
			t.Helper()
			if len(l) != len(want) {
				t.Fatalf("%s: %d, want %d", what, len(l), len(want))
			}
			for i, x := range l {
				under := 0
				if binds && i == 1 {
					under = 1
				}
				node, own := m.Value(x).Head().Read(x.Under)
				wantNode, wantOwn := of(t, e, want[i]).Head().Read(0)
				if x.Under != under || text(node) != text(wantNode) || len(own) != len(wantOwn) {
					t.Fatalf("%s: the %d-th, under %d: %s, want %s", what, i, x.Under, text(node), text(wantNode))
				}
			}
		}
		reads(what, own, c.own, c.node.K != api.Proj)
		reads(what, v.List(0), c.all, false)
		stands(t, what, e, v, c.x)
	}
}

// Under as many binders as there are free variables have numbers that are higher by as many; what the binders bind has those of the innermost ones.
func TestReadUnderBinders(t *testing.T) {
	e := basis(t)
	v := of(t, e, lam(n, lam(n, pi(n, apply(vr(0), vr(1), vr(2), vr(3), vr(8))))))
	r := readerOf(0)
	for _, under := range []int{0, 1, 2, 1000, 1 << 20} {
		want := lam(n, lam(n, pi(n, apply(vr(0), vr(1), vr(2), vr(3+under), vr(8+under)))))
		if got := r.read(v, under); text(got) != text(want) {
			t.Errorf("%d: %s", under, text(got))
		}
	}
	m := NewMaker(10)
	_, own := v.Head().Read(5)
	first := m.Value(own[1])
	_, own = first.Head().Read(own[1].Under)
	second := m.Value(own[1])
	node, own := second.Head().Read(own[1].Under)
	if node.K != api.Pi || own[0].Under != 7 || own[1].Under != 8 {
		t.Fatalf("%d, under %d, %d", node.K, own[0].Under, own[1].Under)
	}
	stands(t, "applied to a free one", e, applied(t, "", v, of(t, e, vr(0)), is{api.Lam, "", 0}, 1), lam(n, pi(n, apply(vr(0), vr(1), vr(2), vr(2), vr(7)))))
}

// A value that waits is itself, and takes no fuel.
func TestAValueThatWaits(t *testing.T) {
	e := basis(t)
	for _, x := range sample.Redexes() {
		v := of(t, e, x)
		m := NewMaker(0)
		if got := m.Value(v.Part(3)); got == nil || tells(got) != tells(v) || v.Part(3).Under != 3 {
			t.Errorf("%s: %v", text(x), tells(got))
		}
		stands(t, text(x), e, m.Value(v.Part(0)), x)
	}
}

// A value, applied to the variable of one more binder, is what its lambda has as a body, or itself, applied to that.
func TestLonger(t *testing.T) {
	e := basis(t)
	l := append(sample.Redexes(), f, vr(3), lam(n, apply(vr(0), vr(1), vr(4))), lam(n, lam(n, apply(vr(0), vr(1), vr(2)))), recN, apply(recN, n, a, f), con("Pair.mk"), srt(two), pi(n, vr(0)))
	for _, x := range l {
		v := of(t, e, x)
		for _, under := range []int{0, 1, 7, 1000} {
			r, m := readerOf(300), NewMaker(100)
			long := v.Longer(under)
			got := r.read(m.Value(long), long.Under)
			in, _ := subst.Lift(app(lifted(x), vr(0)), 1, under)
			want, _, is := plain(e, in, 300)
			if long.Under != under+1 || text(got) != text(want) || !is {
				t.Fatalf("%s, under %d: under %d, %s, want %s", text(x), under, long.Under, text(got), text(want))
			}
		}
		stands(t, text(x), e, v, x)
	}
	long := of(t, e, lam(n, con("one"))).Longer(4)
	if NewMaker(1).Value(long) != nil {
		t.Error("two steps by one")
	}
	m := NewMaker(2)
	if v := m.Value(long); tells(v) != (is{api.Const, "N.succ", 1}) || m.Left() != 0 {
		t.Errorf("%v, left %d", tells(v), m.Left())
	}
}

// What the constructor of a structure makes of all its fields, or of more.
func TestStructure(t *testing.T) {
	info := func(kind uint8, name, of string, fixed, fields int, record bool) api.Info {
		return api.Info{Kind: kind, Name: name, Type: n, Of: of, Fixed: fixed, Fields: fields, Record: record}
	}
	e := basis(t, append(sample.Strangers(),
		info(api.IsType, "Unit", "Unit", 0, 0, true), info(api.IsCtor, "Unit.mk", "Unit", 0, 0, false),
		info(api.IsType, "Two", "Two", 0, 0, true), info(api.IsCtor, "Two.a", "Two", 0, 1, false), info(api.IsCtor, "Two.b", "Two", 0, 1, false),
		info(api.IsType, "Odd", "Odd", 3, 1, true), info(api.IsCtor, "Odd.mk", "Odd", 0, 2, false), info(api.IsCtor, "Far.mk", "none", 0, 1, false),
		info(api.IsAxiom, "Odd.ax", "Odd", 0, 2, false), info(api.IsCtor, "One.mk", "Odd.ax", 0, 2, false))...)
	mkPair := con("Pair.mk", zero, zero)
	type answer struct {
		ahead, behind int
		is            bool
	}
	for what, c := range map[string]struct {
		x    api.Term
		want answer
	}{
		"a pair":                    {mk(a, a), answer{2, 0, true}},
		"a pair by steps":           {swap(mk(a, id(a))), answer{2, 0, true}},
		"at other levels":           {apply(con("Pair.mk"), a, a, a, a), answer{2, 0, true}},
		"of one more":               {app(mk(a, a), n), answer{2, 1, true}},
		"of three more":             {apply(mk(a, a), n, n, n), answer{2, 3, true}},
		"of one fewer":              {apply(mkPair, n, n, a), answer{}},
		"of none":                   {mkPair, answer{}},
		"of nothing fixed":          {apply(con("Other.mk"), a, a), answer{0, 0, true}},
		"a structure's own Fixed":   {apply(con("Odd.mk"), a, a), answer{0, 0, true}},
		"of no fields":              {con("Unit.mk"), answer{}},
		"of no fields, applied":     {app(con("Unit.mk"), a), answer{}},
		"the first of two":          {app(con("Two.a"), a), answer{0, 0, true}},
		"the second of two":         {app(con("Two.b"), a), answer{}},
		"of no structure":           {apply(con("Plain.mk"), a, a), answer{}},
		"of what is no type":        {apply(con("One.mk"), a, a), answer{}},
		"of what is not there":      {app(con("Far.mk"), a), answer{}},
		"an axiom":                  {apply(con("Odd.ax"), a, a), answer{}},
		"a number":                  {num(1), answer{}},
		"a list":                    {row(a), answer{}},
		"a type":                    {sample.PairOf(n, n), answer{}},
		"p":                         {p, answer{}},
		"a field":                   {app(first(p), a), answer{}},
		"of a constructor's name":   {apply(prj("Pair.mk", 0, p), n, n, a, a), answer{}},
		"a variable":                {apply(vr(0), n, n, a, a), answer{}},
		"a lambda of one":           {lam(n, mk(a, a)), answer{}},
		"a recursor that is stuck":  {apply(recN, n, n, n, a), answer{}},
		"a recursor, of a few":      {apply(recN, n, mk(a, a)), answer{}},
		"a sort":                    {apply(srt(zero), n, n, a, a), answer{}},
		"a name that is none, of 4": {apply(con("none"), n, n, a, a), answer{}},
	} {
		v, m := of(t, e, c.x), NewMaker(0)
		for range 2 {
			ahead, behind, is := m.Structure(e, v)
			if (answer{ahead, behind, is}) != c.want {
				t.Errorf("%s: %d, %d, %t, want %v", what, ahead, behind, is, c.want)
			}
		}
		if _, _, is := m.Structure(filled(t), v); is {
			t.Errorf("%s: in an environment without it", what)
		}
	}
	v := of(t, e, mk(a, a))
	for _, m := range []*Maker{nil, {}} {
		if ahead, behind, is := m.Structure(e, v); is || ahead != 0 || behind != 0 {
			t.Error("of no maker")
		}
	}
	for _, no := range []*Value{nil, {}} {
		if ahead, behind, is := NewMaker(1).Structure(e, no); is || ahead != 0 || behind != 0 {
			t.Error("of no value")
		}
	}
	if _, _, is := NewMaker(1).Structure(nil, v); is {
		t.Error("of no environment")
	}
}

// What is made of parts takes from one and the same fuel, each time as much as by itself; where that is not enough there is nothing.
func TestTheFuelOfAMaker(t *testing.T) {
	e := basis(t)
	v := of(t, e, apply(f, id(a), add(num(1), num(1)), a, con("one"), id(a)))
	steps := []int{3, 10, 0, 1, 3}
	l := v.List(0)
	for fuel := range 30 {
		m, left := NewMaker(fuel), fuel
		for range 2 { // asked again it is made again
			for i, x := range l {
				got := m.Value(x)
				if steps[i] > left {
					if got != nil {
						t.Fatalf("%d: the %d-th of %d", fuel, i, left)
					}
					left = m.Left()
					continue
				}
				left -= steps[i]
				if got == nil || m.Left() != left {
					t.Fatalf("%d: the %d-th, left %d, want %d", fuel, i, m.Left(), left)
				}
			}
		}
	}
	m := NewMaker(math.MaxInt)
	if m.Value(l[1]) == nil || m.Left() != math.MaxInt-10 {
		t.Errorf("left %d", m.Left())
	}
}

// However much is made, one behind the other: each by itself is not too great.
func TestAMakerOfMuch(t *testing.T) {
	e := basis(t)
	many := vr(0)
	for range 3000 {
		many = app(many, a)
	}
	l := of(t, e, apply(f, many, second(many))).List(0)
	m := NewMaker(0)
	for range 50 {
		for _, x := range l {
			if v := m.Value(x); v == nil {
				t.Fatal("none")
			}
		}
	}
}

// What goes out within something else says nothing to what is made behind it.
func TestAMakerBehindWhatGoesOut(t *testing.T) {
	e := loose(t)
	m := NewMaker(1000)
	endless := of(t, e, apply(f, count(first(sample.EndlessHeads()["within many"])), num(2), count(num(2)))).List(0)
	if m.Value(endless[0]) != nil || m.Left() != 0 {
		t.Fatalf("left %d", m.Left())
	}
	if got := m.Value(endless[1]); tells(got) != (is{api.Const, "N.succ", 1}) {
		t.Errorf("%v", tells(got))
	}
	if m.Value(endless[2]) != nil {
		t.Error("without fuel")
	}
	e = basis(t, def(1, "sort", srt(sample.P(0, 4)), srt(sample.P(0, 3))))
	great := of(t, e, apply(f, count(first(con("sort", sample.Number(api.TopLevel)))), id(num(2)))).List(0)
	m = NewMaker(10)
	if m.Value(great[0]) != nil || m.Left() != 10 {
		t.Errorf("too great: left %d", m.Left())
	}
	if got := m.Value(great[1]); tells(got) != (is{api.Const, "N.succ", 1}) || m.Left() != 7 {
		t.Errorf("behind what is too great: %v, left %d", tells(got), m.Left())
	}
}

// Of no value, no part and no maker nothing is told, or made.
func TestReadOfNoValue(t *testing.T) {
	e := basis(t)
	for _, no := range []*Value{nil, {}} {
		for _, under := range []int{0, 1, -1, math.MaxInt, math.MinInt} {
			node, own := no.Head().Read(under)
			if !sample.IsZero(node) || len(own) > 0 || len(no.List(under)) > 0 || NewMaker(10).Value(no.Part(under)) != nil || NewMaker(10).Value(no.Longer(under)) != nil {
				t.Errorf("under %d: %s", under, text(node))
			}
		}
	}
	v := of(t, e, con("one"))
	for what, m := range map[string]*Maker{"none": nil, "a zero one": {}} {
		if m.Left() != 0 || m.Value(v.Part(0)) != nil || m.Value(Part{}) != nil {
			t.Errorf("%s: %d", what, m.Left())
		}
	}
	for _, fuel := range []int{0, -1, math.MinInt} {
		m := NewMaker(fuel)
		if m.Left() != 0 || m.Value(of(t, e, app(f, con("one"))).List(0)[0]) != nil || m.Value(v.Part(0)) == nil || m.Value(Part{}) != nil {
			t.Errorf("with %d", fuel)
		}
	}
	for _, x := range sample.Redexes() { // any numbers
		v := of(t, e, x)
		for _, under := range []int{-1, -5, math.MinInt, math.MaxInt} {
			r := readerOf(50)
			r.read(v, under)
		}
	}
}
