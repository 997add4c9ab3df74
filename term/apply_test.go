package term

import (
	"slices"
	"testing"

	"batten/api"
)

func wantTerm(t *testing.T, what string, got, want api.Term) {
	t.Helper()
	if text(got) != text(want) {
		t.Errorf("%s: %s, want %s", what, text(got), text(want))
	}
}

// P3.3

func TestApply(t *testing.T) {
	f, a, b, c := con("f"), vr(0), lam(srt(zero), vr(0)), prj("S", 1, vr(2))
	wantTerm(t, "to nothing", Apply(f), f)
	wantTerm(t, "to an empty list", Apply(f, []api.Term{}...), f)
	wantTerm(t, "to one", Apply(f, a), app(f, a))
	wantTerm(t, "to three", Apply(f, a, b, c), app(app(app(f, a), b), c))
	wantTerm(t, "what is applied", Apply(app(f, a), b, c), app(app(app(f, a), b), c))
	wantTerm(t, "to what is applied", Apply(f, app(a, b)), app(f, app(a, b)))
	wantTerm(t, "a lambda", Apply(b, a), app(b, a))
	for _, x := range leaves() {
		wantTerm(t, "each leaf", Apply(x, x, f), app(app(x, x), f))
	}
}

func TestApplyOfWhatMayNotBe(t *testing.T) {
	for i, b := range bads() {
		for at := range 4 {
			l := []api.Term{con("f"), vr(0), vr(1), vr(2)}
			l[at] = b
			for n := at; n < len(l); n++ {
				if got := Apply(l[0], l[1:n+1]...); !zeroTerm(got) {
					t.Errorf("the one %d, that may not be, at %d of %d: of the kind %d", i, at, n, got.K)
				}
			}
		}
	}
}

func TestApplyLimits(t *testing.T) {
	args := slices.Repeat([]api.Term{vr(0)}, 1<<17)
	half := ofSize(api.TopTerm / 2)
	deep := ofDepth(api.TopDepth-1, vr(0), steps[9])
	for what, c := range map[string]struct {
		f    api.Term
		l    []api.Term
		want int // nodes; 0: it may not be
	}{
		"to many":              {vr(0), args[:api.TopDepth-1], 2*api.TopDepth - 1},
		"to one more":          {vr(0), args[:api.TopDepth], 0},
		"to two more":          {vr(0), args[:api.TopDepth+1], 0},
		"to far too many":      {vr(0), args, 0},
		"a deep one":           {deep, args[:1], api.TopDepth + 1},
		"the deepest one":      {prj("S", 0, deep), args[:1], 0},
		"a deep one, to two":   {deep, args[:2], 0},
		"to a deep one":        {vr(0), []api.Term{deep}, api.TopDepth + 1},
		"to a deep one, ahead": {vr(0), []api.Term{deep, vr(0)}, 0},
		"to a deep one, last":  {vr(0), []api.Term{vr(0), deep}, api.TopDepth + 3},
		"great ones":           {half, []api.Term{ofSize(api.TopTerm/2 - 1)}, api.TopTerm},
		"too great ones":       {half, []api.Term{half}, 0},
		"the greatest one":     {ofSize(api.TopTerm), nil, api.TopTerm},
		"and one more":         {ofSize(api.TopTerm), args[:1], 0},
		"many great ones":      {half, []api.Term{vr(0), ofSize(api.TopTerm/2 - 3)}, api.TopTerm},
		"many too great ones":  {half, []api.Term{vr(0), ofSize(api.TopTerm/2 - 2)}, 0},
	} {
		got := Apply(c.f, c.l...)
		if Size(got) != c.want || c.want == 0 && !zeroTerm(got) {
			t.Errorf("%s: %d nodes, want %d", what, Size(got), c.want)
		}
		if c.want == 0 {
			continue
		}
		ahead, before := Spine(c.f)
		if f, l := Spine(got); Size(f) != Size(ahead) || len(l) != len(before)+len(c.l) {
			t.Errorf("%s: a spine of %d", what, len(l))
		}
	}
}

func TestSpine(t *testing.T) {
	f, a, b, c := con("f", two), vr(0), lam(srt(zero), app(vr(0), vr(0))), app(vr(1), vr(2))
	for _, x := range []struct {
		t, f api.Term
		l    []api.Term
	}{
		{f, f, nil},
		{b, b, nil}, // what is in a lambda stays
		{prj("S", 0, c), prj("S", 0, c), nil},
		{let(a, a, c), let(a, a, c), nil},
		{app(f, a), f, []api.Term{a}},
		{app(app(app(f, a), b), c), f, []api.Term{a, b, c}},
		{app(f, c), f, []api.Term{c}}, // what it is applied to stays
		{app(app(b, c), a), b, []api.Term{c, a}},
		{app(prj("S", 0, c), b), prj("S", 0, c), []api.Term{b}},
	} {
		g, l := Spine(x.t)
		wantTerm(t, "what is left", g, x.f)
		if len(l) != len(x.l) {
			t.Errorf("%s: %d, want %d", text(x.t), len(l), len(x.l))
			continue
		}
		for i := range l {
			wantTerm(t, "what it was applied to", l[i], x.l[i])
		}
	}
	for i, b := range bads() {
		if g, l := Spine(app(app(con("f"), b), vr(0))); !zeroTerm(g) || len(l) != 0 {
			t.Errorf("of the one %d, that may not be, a spine of %d", i, len(l))
		}
	}
}

func TestSpineOfTheDeepest(t *testing.T) {
	x := con("f")
	for i := range api.TopDepth - 1 {
		x = app(x, vr(i))
	}
	f, l := Spine(x)
	if f.S != "f" || len(l) != api.TopDepth-1 {
		t.Fatalf("%q, to %d", f.S, len(l))
	}
	for i, a := range l {
		if a.K != api.Var || a.N != i {
			t.Fatalf("at %d: %d", i, a.N)
		}
	}
}

// P3.4

func TestApplyOfSpine(t *testing.T) {
	for _, x := range small() {
		f, l := Spine(x)
		if f.K == api.App {
			t.Fatalf("%s: an App is left", text(x))
		}
		if back := Apply(f, l...); !Same(back, x) || text(back) != text(x) {
			t.Fatalf("%s: %s", text(x), text(back))
		}
	}
	for i, step := range steps {
		for _, x := range []api.Term{ofDepth(api.TopDepth, vr(3), step), ofSize(api.TopTerm - i)} {
			f, l := Spine(x)
			if !Same(Apply(f, l...), x) {
				t.Errorf("way %d: another term", i)
			}
		}
	}
}

func TestClosedJustIfFreeIsNone(t *testing.T) {
	closed := 0
	for _, x := range small() {
		has := false
		for _, k := range []int{0, 1, 2, far - 2, far - 1, far} {
			has = has || Has(x, k)
		}
		if has != (Free(x) > 0) || has && !Has(x, Free(x)-1) || Has(x, Free(x)) {
			t.Fatalf("%s: Free %d", text(x), Free(x))
		}
		if !has {
			closed++
		}
	}
	if closed == 0 {
		t.Error("each of them has a free variable")
	}
}

// What is handed in stays as it is, the room behind the ends of its lists, too. (R3)
func TestNothingIsTurned(t *testing.T) {
	room := []api.Term{con("f"), vr(0), vr(1), con("b"), con("a")}
	levels := []api.Level{two, zero, great}
	f := api.Term{K: api.Const, S: "f", Ls: levels[:1]}
	inner := append(make([]api.Term, 0, 4), f, vr(7), vr(8), vr(9))
	x := api.Term{K: api.App, T: inner[:2]}
	look := func() string {
		return text(node(0, room...)) + text(node(0, inner[:4]...)) + text(con("", levels...)) + text(x)
	}
	was := look()
	for n := range len(room) + 1 {
		May(x)
		Size(x)
		Same(x, clone(x))
		Free(x)
		Has(x, 7)
		Names(x)
		Apply(x, room[:n]...)
		g, l := Spine(Apply(x, room[:n]...))
		Apply(g, l...)
		clear(l) // the list is the caller's
		_, l = Spine(x)
		l = append(l[:0], con("z"))
		_ = append(l, con("z"))
		if look() != was {
			t.Fatalf("with %d: %s", n, look())
		}
	}
}

// FuzzTerms: all calls, of any trees. (R1)
func FuzzTerms(f *testing.F) {
	for k := range 10 {
		f.Add([]byte{byte(k), 1, 1, 1}, 0)
		f.Add([]byte{4, 4, 5, byte(k), 1, 0, 3, 1, 1, 1, 8, 2, 4, 2, 3}, k)
		f.Add([]byte{7, 6, 3, 1, 0, 2, 1, byte(k), 2, 8, 1, 3, byte(200 + k)}, k)
	}
	f.Fuzz(func(t *testing.T, b []byte, k int) {
		x := grown(b)
		w := wordsOf(x)
		was := text(x)
		if !w.may {
			wantNothing(t, x)
			return
		}
		free := 0
		if len(w.frees) > 0 {
			free = w.frees[len(w.frees)-1] + 1
		}
		if !May(x) || Size(x) != w.size || Free(x) != free || Has(x, k) != slices.Contains(w.frees, k) || !slices.Equal(Names(x), w.names) {
			t.Fatalf("%s: May %v, Size %d, Free %d, Has %v, Names %q", was, May(x), Size(x), Free(x), Has(x, k), Names(x))
		}
		g, l := Spine(x)
		if !Same(Apply(g, l...), x) || !Same(x, clone(x)) || Same(app(x, x), x) {
			t.Fatalf("%s: of a spine of %d", was, len(l))
		}
		if text(x) != was {
			t.Fatalf("%s was turned", was)
		}
	})
}
