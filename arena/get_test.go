package arena

import (
	"math"
	"testing"

	"batten/api"
	"batten/sample"
	"batten/term"
)

// P5.2

func TestAnswersOfOneTerm(t *testing.T) {
	for _, c := range []struct {
		t                api.Term
		size, deep, free int
	}{
		{srt(great), 1, 1, 0},
		{vr(0), 1, 1, 1},
		{vr(sample.Far), 1, 1, sample.Far + 1},
		{con("A", zero, two), 1, 1, 0},
		{prj("S", 11, vr(2)), 2, 2, 3},
		{app(vr(1), vr(4)), 3, 2, 5},
		{app(vr(4), vr(1)), 3, 2, 5},
		{lam(vr(0), vr(0)), 3, 2, 1},
		{lam(con("A"), vr(0)), 3, 2, 0},
		{lam(con("A"), vr(3)), 3, 2, 3},
		{pi(vr(3), vr(0)), 3, 2, 4},
		{pi(con("A"), vr(sample.Far)), 3, 2, sample.Far},
		{let(vr(0), con("A"), vr(0)), 4, 2, 1},
		{let(con("A"), vr(0), vr(0)), 4, 2, 1},
		{let(con("A"), con("A"), vr(0)), 4, 2, 0},
		{let(vr(4), vr(3), vr(2)), 4, 2, 5},
		{let(vr(1), vr(3), vr(2)), 4, 2, 4},
		{let(vr(1), vr(2), vr(6)), 4, 2, 6},
		{lam(srt(zero), app(vr(0), vr(1))), 5, 3, 1},
		{lam(con("A"), pi(con("A"), let(vr(1), vr(1), vr(2)))), 8, 4, 0},
		{app(prj("S", 0, prj("S", 0, vr(0))), con("A")), 5, 4, 1},
		{app(con("A"), prj("S", 0, prj("S", 0, vr(0)))), 5, 4, 1},
	} {
		a := New()
		n, e := a.Put(c.t)
		if e != api.OK || a.Size(n) != c.size || a.Deep(n) != c.deep || a.Free(n) != c.free {
			t.Errorf("%s: error %d, Size %d, Deep %d, Free %d, want %d, %d, %d", text(c.t), e, a.Size(n), a.Deep(n), a.Free(n), c.size, c.deep, c.free)
		}
		if x, e := a.Get(n); e != api.OK || text(x) != text(c.t) {
			t.Errorf("%s: Get: error %d, %s", text(c.t), e, text(x))
		}
	}
}

func TestKidsAreInOrder(t *testing.T) {
	a := New()
	for i := range 3 {
		mustPut(t, a, vr(i), i)
	}
	for _, c := range []struct {
		t    api.Term
		want []int
	}{
		{vr(1), nil},
		{con("A", two), nil},
		{srt(two), nil},
		{prj("S", 0, vr(2)), []int{2}},
		{app(vr(2), vr(1)), []int{2, 1}},
		{lam(vr(1), vr(2)), []int{1, 2}},
		{pi(vr(2), vr(2)), []int{2, 2}},
		{let(vr(2), vr(0), vr(1)), []int{2, 0, 1}},
		{let(vr(0), vr(2), vr(0)), []int{0, 2, 0}},
	} {
		n, e := a.Put(c.t)
		if e != api.OK {
			t.Fatalf("error %d", e)
		}
		l, e := a.Kids(n)
		if e != api.OK || len(l) != len(c.want) {
			t.Errorf("%s: error %d, %v, want %v", text(c.t), e, l, c.want)
			continue
		}
		for i := range l {
			if l[i] != c.want[i] {
				t.Errorf("%s: %v, want %v", text(c.t), l, c.want)
			}
		}
	}
}

func TestNumbersOfNoTerm(t *testing.T) {
	a := New()
	for range 2 {
		for _, n := range []int{math.MinInt, math.MinInt + 1, -1 << 32, -2, -1, a.Len(), a.Len() + 1, 1 << 32, Most, Most + 1, math.MaxInt - 1, math.MaxInt} {
			nothingAt(t, a, n, api.ErrNone)
		}
		mustPut(t, a, let(vr(0), vr(1), vr(2)), 3)
	}
}

func TestOfNoArena(t *testing.T) {
	var a *Arena
	for _, x := range append(sample.Bads(), sample.Leaves()...) {
		if n, e := a.Put(x); n != 0 || e != api.ErrNil {
			t.Errorf("Put: %d, error %d", n, e)
		}
		isNot(t, a, x)
	}
	for _, n := range []int{math.MinInt, -1, 0, 1, math.MaxInt} {
		nothingAt(t, a, n, api.ErrNil)
	}
	if a.Len() != 0 {
		t.Errorf("Len: %d", a.Len())
	}
}

// One that New did not make is one without terms. (R1)
func TestZeroArena(t *testing.T) {
	var a Arena
	holds(t, &a, newWords(), 0)
	isNot(t, &a, vr(0))
	w := newWords()
	x := app(vr(0), vr(0))
	mustPut(t, &a, x, w.put(x))
	holds(t, &a, w, 0)
}

// The greatest and the deepest terms come back whole.
func TestGetOfTheGreatest(t *testing.T) {
	a := New()
	all := []api.Term{sample.OfSize(api.TopTerm)}
	for _, step := range sample.Steps() {
		all = append(all, sample.OfDepth(api.TopDepth, vr(5000), step))
	}
	for i, x := range all {
		n, e := a.Put(x)
		if e != api.OK {
			t.Fatalf("%d: error %d", i, e)
		}
		got, e := a.Get(n)
		if e != api.OK || !term.Same(got, x) || a.Size(n) != term.Size(x) || a.Deep(n) != deepOf(x) || a.Free(n) != term.Free(x) {
			t.Errorf("%d: error %d, Size %d, Deep %d, Free %d", i, e, a.Size(n), a.Deep(n), a.Free(n))
		}
	}
}
