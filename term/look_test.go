package term

import (
	"math"
	"slices"
	"testing"

	"batten/api"
)

// P3.2

func TestSize(t *testing.T) {
	for _, c := range []struct {
		t    api.Term
		want int
	}{
		{lam(srt(zero), app(vr(0), vr(1))), 5}, // the chapter's
		{srt(great), 1},
		{vr(far), 1},
		{con("A", zero, zero), 1}, // levels are no nodes
		{prj("S", 3, vr(0)), 2},
		{app(vr(0), vr(0)), 3},
		{pi(vr(0), vr(0)), 3},
		{let(vr(0), vr(0), vr(0)), 4},
		{let(app(vr(0), vr(0)), prj("S", 0, vr(0)), lam(vr(0), vr(0))), 9},
	} {
		if n := Size(c.t); n != c.want {
			t.Errorf("%s: %d, want %d", text(c.t), n, c.want)
		}
	}
	for _, x := range small() {
		if n := Size(x); n != wordsOf(x).size {
			t.Fatalf("%s: %d", text(x), n)
		}
	}
	for _, n := range []int{1, 2, 3, 10, 1000, 65535, 65536} {
		if got := Size(ofSize(n)); got != n {
			t.Errorf("of %d nodes: %d", n, got)
		}
	}
}

// Each place is counted, shared or not.
func TestSizeOfShared(t *testing.T) {
	x := con("A")
	for i := range 15 {
		x = app(x, x)
		if n := Size(x); n != 1<<(i+2)-1 {
			t.Errorf("doubled %d times: %d", i+1, n)
		}
	}
}

func TestSame(t *testing.T) {
	all := small()
	texts := make([]string, len(all))
	for i, x := range all {
		texts[i] = text(x)
		if !Same(x, x) || !Same(x, clone(x)) {
			t.Fatalf("%s is not the same as itself", texts[i])
		}
	}
	for i, x := range all {
		for j := i % 101; j < len(all); j += 101 {
			if Same(x, all[j]) != (texts[i] == texts[j]) {
				t.Fatalf("%s, %s: the same: %v", texts[i], texts[j], texts[i] != texts[j])
			}
		}
	}
}

// Terms that differ in one field only.
func TestSameByEachField(t *testing.T) {
	one := api.Level{C: 1, P: zero.P}
	last := api.Level{P: [api.MaxParams]int{-1, -1, -1, 0}}
	first := api.Level{P: [api.MaxParams]int{0, -1, -1, -1}}
	for _, l := range [][]api.Term{
		{vr(0), vr(1), vr(far), srt(zero), con("A")},
		{srt(zero), srt(one), srt(two), srt(first), srt(last), srt(param)},
		{con("A"), con("a"), con("B"), con("AA"), con("A", zero), con("A", one), con("A", zero, zero), con("A", zero, one), con("A", one, zero), con("A", zero, zero, zero, last), con("A", zero, zero, zero, first)},
		{prj("A", 0, vr(0)), prj("B", 0, vr(0)), prj("A", 1, vr(0)), prj("A", 0, vr(1)), prj("A", 0, con("A"))},
		{app(vr(0), vr(1)), lam(vr(0), vr(1)), pi(vr(0), vr(1)), app(vr(1), vr(0)), app(vr(0), vr(0)), app(vr(1), vr(1))},
		{let(vr(0), vr(1), vr(2)), let(vr(1), vr(1), vr(2)), let(vr(0), vr(0), vr(2)), let(vr(0), vr(1), vr(1)), let(vr(1), vr(0), vr(2)), let(vr(0), vr(2), vr(1))},
	} {
		for i, x := range l {
			for j, y := range l {
				if Same(x, y) != (i == j) || Same(lam(vr(0), x), lam(vr(0), y)) != (i == j) {
					t.Errorf("%s, %s: the same: %v", text(x), text(y), i != j)
				}
			}
		}
	}
}

func TestSameOfEmptyLists(t *testing.T) {
	for _, p := range [][2]api.Term{
		{vr(1), {K: api.Var, N: 1, Ls: []api.Level{}, T: []api.Term{}}},
		{con("A"), {K: api.Const, S: "A", Ls: []api.Level{}, T: []api.Term{}}},
		{srt(two), {K: api.Sort, Ls: []api.Level{two}, T: []api.Term{}}},
		{app(vr(0), vr(0)), {K: api.App, Ls: []api.Level{}, T: []api.Term{vr(0), vr(0)}}},
	} {
		if !Same(p[0], p[1]) || !Same(p[1], p[0]) {
			t.Errorf("%s: nil and empty lists differ", text(p[0]))
		}
	}
}

// The greatest and the deepest terms, in the last place of which something else stands.
func TestSameFarInside(t *testing.T) {
	great := ofSize(api.TopTerm)
	other := clone(great)
	if !Same(great, other) {
		t.Error("the greatest term is not the same as itself")
	}
	x := &other
	for len(x.T) > 0 {
		x = &x.T[len(x.T)-1]
	}
	x.N = 1
	if Same(great, other) || Same(other, great) {
		t.Error("of the greatest terms the last places were not told apart")
	}
	for i, step := range steps {
		deep := ofDepth(api.TopDepth, vr(0), step)
		if !Same(deep, ofDepth(api.TopDepth, vr(0), step)) || Same(deep, ofDepth(api.TopDepth, vr(1), step)) || Same(deep, ofDepth(api.TopDepth-1, vr(0), step)) {
			t.Errorf("way %d", i)
		}
	}
}

// What may not be is the same as nothing, a term that differs from it there neither.
func TestSameOfWhatMayNotBe(t *testing.T) {
	all := bads()
	for i, x := range all {
		for j, y := range all {
			if Same(x, y) || Same(lam(vr(0), x), lam(vr(0), y)) {
				t.Errorf("of the ones %d and %d, that may not be", i, j)
			}
		}
		for _, y := range leaves() {
			if Same(x, y) || Same(y, x) || Same(app(y, x), app(y, y)) || Same(app(y, y), app(y, x)) {
				t.Errorf("of the one %d, that may not be, and %s", i, text(y))
			}
		}
	}
}

func TestFree(t *testing.T) {
	for _, c := range []struct {
		t    api.Term
		want int
	}{
		{lam(srt(zero), app(vr(0), vr(1))), 1}, // the chapter's
		{srt(zero), 0},
		{con("A"), 0},
		{vr(0), 1},
		{vr(far), far + 1},
		{app(vr(1), vr(4)), 5},
		{app(vr(4), vr(1)), 5},
		{prj("S", 7, vr(2)), 3},
		{lam(vr(0), vr(0)), 1},
		{lam(con("A"), vr(0)), 0},
		{lam(con("A"), vr(far)), far},
		{pi(vr(3), vr(0)), 4},
		{pi(con("A"), vr(3)), 3},
		{let(vr(0), con("A"), vr(0)), 1},
		{let(con("A"), vr(0), vr(0)), 1},
		{let(con("A"), con("A"), vr(0)), 0},
		{let(con("A"), con("A"), vr(1)), 1},
		{let(vr(4), vr(3), vr(2)), 5},
		{lam(con("A"), pi(con("A"), let(vr(1), vr(1), vr(2)))), 0},
		{lam(con("A"), pi(con("A"), let(vr(2), vr(1), vr(3)))), 1},
		{lam(con("A"), pi(vr(1), let(vr(3), vr(5), vr(5)))), 4},
	} {
		if n := Free(c.t); n != c.want {
			t.Errorf("%s: %d, want %d", text(c.t), n, c.want)
		}
	}
}

func TestFreeAndHasAreAsTold(t *testing.T) {
	free := 0
	for _, x := range small() {
		w := wordsOf(x)
		want := 0
		if len(w.frees) > 0 {
			want = w.frees[len(w.frees)-1] + 1
			free++
		}
		if n := Free(x); n != want {
			t.Fatalf("%s: %d, want %d", text(x), n, want)
		}
		for _, k := range []int{math.MinInt, -far, -3, -2, -1, 0, 1, 2, 3, far - 2, far - 1, far, far + 1, math.MaxInt - 1, math.MaxInt} {
			if Has(x, k) != slices.Contains(w.frees, k) {
				t.Fatalf("%s has %d: %v", text(x), k, Has(x, k))
			}
		}
	}
	if free == 0 {
		t.Error("none of them has a free variable")
	}
}

func TestHas(t *testing.T) {
	x := lam(vr(2), app(vr(0), let(vr(5), vr(1), app(vr(1), vr(9)))))
	for k := -10; k <= 20; k++ {
		want := k == 2 || k == 4 || k == 0 || k == 7
		if Has(x, k) != want {
			t.Errorf("%d: %v", k, !want)
		}
	}
	if Has(vr(far), far-1) || !Has(vr(far), far) || !Has(pi(vr(0), vr(far)), far-1) {
		t.Error("of the greatest number of a Var")
	}
}

// Under as many binders as may be.
func TestFreeUnderManyBinders(t *testing.T) {
	for _, i := range []int{3, 5, 8} {
		step := func(x api.Term) api.Term { // so that nothing but the innermost one is free
			x = steps[i](x)
			for j := range x.T[:len(x.T)-1] {
				x.T[j] = con("A")
			}
			return x
		}
		under := api.TopDepth - 1
		for _, c := range []struct{ n, want int }{{0, 0}, {under - 1, 0}, {under, 1}, {under + 5, 6}, {far, far - under + 1}} {
			x := ofDepth(api.TopDepth, vr(c.n), step)
			if n := Free(x); n != c.want || Has(x, c.want-1) != (c.want > 0) || Has(x, c.want) || Has(x, c.n-under-1) {
				t.Errorf("way %d, the variable %d: Free %d, want %d", i, c.n, n, c.want)
			}
		}
	}
	for _, i := range []int{0, 1, 2, 4, 6, 7, 9} { // what no binder is around
		if x := ofDepth(api.TopDepth, vr(6), steps[i]); Free(x) != 7 || !Has(x, 6) {
			t.Errorf("way %d: Free %d", i, Free(x))
		}
	}
}

func TestNames(t *testing.T) {
	for _, c := range []struct {
		t    api.Term
		want []string
	}{
		{srt(zero), nil},
		{lam(vr(0), vr(0)), nil},
		{con("A"), []string{"A"}},
		{prj("S", 0, vr(0)), []string{"S"}},
		{prj("S", 0, con("S")), []string{"S"}},
		{prj("S", 0, con("A")), []string{"A", "S"}},
		{app(con("b"), app(con("a"), app(con("b"), con("a", zero)))), []string{"a", "b"}},
		{app(con("a"), app(con("Z"), app(con("9"), app(con("_"), app(con("."), con("'")))))), []string{"'", ".", "9", "Z", "_", "a"}},
		{app(con("ab"), app(con("a"), app(con("a.b"), con("B")))), []string{"B", "a", "a.b", "ab"}},
		{let(con("c"), con("b"), con("a")), []string{"a", "b", "c"}},
		{pi(prj("q", 0, con("p")), lam(con(name32), con("b"))), []string{name32, "b", "p", "q"}},
	} {
		if l := Names(c.t); !slices.Equal(l, c.want) {
			t.Errorf("%s: %q, want %q", text(c.t), l, c.want)
		}
	}
	for _, x := range small() {
		if l := Names(x); !slices.Equal(l, wordsOf(x).names) {
			t.Fatalf("%s: %q", text(x), l)
		}
	}
}

func TestNamesOfTheGreatest(t *testing.T) {
	var want []string
	x := vr(0)
	for i := range 1000 {
		s := "n." + string([]byte{'a' + byte(i/100), 'a' + byte(i/10%10), 'a' + byte(i%10)})
		want = append(want, s)
		x = app(con(s), app(x, con(s)))
	}
	if l := Names(x); !slices.Equal(l, want) {
		t.Errorf("%d names, want %d", len(l), len(want))
	}
}

func TestNamesAreNewMemory(t *testing.T) {
	x := app(con("a"), con("b"))
	one := Names(x)
	_ = append(one[:1], "z")
	one[0] = "y"
	if l := Names(x); !slices.Equal(l, []string{"a", "b"}) {
		t.Errorf("what was answered once was turned: %q", l)
	}
}
