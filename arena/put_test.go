package arena

import (
	"testing"

	"batten/api"
	"batten/sample"
)

// P5.1

func TestNewIsWithoutTerms(t *testing.T) {
	a := New()
	if a == nil || a.Len() != 0 {
		t.Fatalf("%d terms", a.Len())
	}
	holds(t, a, newWords(), 0)
	for _, x := range sample.Leaves() {
		isNot(t, a, x)
	}
	mustPut(t, a, vr(0), 0)
	if b := New(); b.Len() != 0 {
		t.Errorf("a second one has %d terms of the first one", b.Len())
	}
}

func TestPutOfTheChapter(t *testing.T) {
	a := New()
	x := app(vr(0), vr(0))
	mustPut(t, a, x, 1)
	if a.Len() != 2 {
		t.Errorf("Len: %d", a.Len())
	}
	if l, e := a.Kids(1); e != api.OK || len(l) != 2 || l[0] != 0 || l[1] != 0 {
		t.Errorf("Kids: error %d, %v", e, l)
	}
	mustPut(t, a, lam(vr(0), x), 2)
	mustPut(t, a, vr(0), 0)
	nothingAt(t, a, 3, api.ErrNone)
	if n, e := a.Put(api.Term{}); n != 0 || e != api.ErrArg {
		t.Errorf("Put of a zero term: %d, error %d", n, e)
	}
}

// All that a term is made of is put from the first one on, and ahead of it; what is there keeps its number.
func TestPutInOrder(t *testing.T) {
	a, w := New(), newWords()
	for i, x := range []api.Term{
		let(con("A"), con("B"), con("C")),                    // 0, 1, 2: 3
		con("B"),                                             // there
		app(con("C"), con("A")),                              // its parts are there
		app(con("A"), con("C")),                              // in another order
		lam(prj("S", 1, pi(vr(2), srt(two))), vr(2)),         // the same part in two places that lie apart
		pi(app(vr(0), vr(1)), app(app(vr(1), vr(0)), vr(1))), // the first one is put first, whole
		let(con("A"), con("B"), con("C")),                    // there
	} {
		want := w.put(x)
		mustPut(t, a, x, want)
		if n, is := a.Find(x); n != want || !is {
			t.Errorf("%d: Find %d, %v, want %d", i, n, is, want)
		}
	}
	holds(t, a, w, 0)
	order := []api.Term{
		con("A"), con("B"), con("C"), let(con("A"), con("B"), con("C")),
		app(con("C"), con("A")), app(con("A"), con("C")),
		vr(2), srt(two), pi(vr(2), srt(two)), prj("S", 1, pi(vr(2), srt(two))), lam(prj("S", 1, pi(vr(2), srt(two))), vr(2)),
		vr(0), vr(1), app(vr(0), vr(1)), app(vr(1), vr(0)), app(app(vr(1), vr(0)), vr(1)),
	}
	for i, x := range order {
		if n, is := a.Find(x); n != i || !is {
			t.Errorf("%s: %d, %v, want %d", text(x), n, is, i)
		}
	}
}

// A part with its whole behind it, and a whole ahead of its parts.
func TestPutOfPartsAndWholes(t *testing.T) {
	whole := lam(con("A"), app(vr(0), con("A")))
	a := New()
	mustPut(t, a, whole.T[1], 2)
	isNot(t, a, whole)
	mustPut(t, a, whole, 3)
	if a.Len() != 4 {
		t.Errorf("%d terms", a.Len())
	}
	a = New()
	mustPut(t, a, whole, 3)
	mustPut(t, a, whole.T[1], 2)
	mustPut(t, a, con("A"), 0)
	if a.Len() != 4 {
		t.Errorf("%d terms", a.Len())
	}
}

// Many terms with the same parts in many places.
func TestPutAndFindAreAsTold(t *testing.T) {
	a, w := New(), newWords()
	for _, x := range sample.Small() {
		want, there := w.at[text(x)]
		if n, is := a.Find(x); n != want || is != there {
			t.Fatalf("Find of %s, ahead: %d, %v", text(x), n, is)
		}
		was := len(w.l)
		mustPut(t, a, x, w.put(x))
		if len(w.l) > was {
			holds(t, a, w, was)
		}
	}
	if len(w.l) < 10000 {
		t.Errorf("only %d terms", len(w.l))
	}
	holds(t, a, w, 0)
}

// With one part doubled over and over there is one term more each time.
func TestPutOfShared(t *testing.T) {
	a := New()
	x := con("A")
	mustPut(t, a, x, 0)
	for i := 1; i <= 15; i++ {
		x = app(x, x)
		if i%4 == 0 {
			continue // comes with the next one
		}
		mustPut(t, a, x, i)
		if a.Len() != i+1 {
			t.Fatalf("doubled %d times: %d terms", i, a.Len())
		}
	}
}

// Terms that differ in one thing alone, each field and the length of a list of levels, have numbers of their own.
func TestPutByEachField(t *testing.T) {
	var none api.Level // a level too: all parameters
	one := api.Level{C: 1, P: zero.P}
	first := api.Level{P: [api.MaxParams]int{0, -1, -1, -1}}
	last := api.Level{P: [api.MaxParams]int{-1, -1, -1, 0}}
	all := []api.Term{
		vr(0), vr(1), vr(2), vr(3), vr(sample.Far - 1), vr(sample.Far),
		srt(zero), srt(one), srt(two), srt(none), srt(first), srt(last), srt(param), srt(great),
		con("A"), con("a"), con("B"), con("AA"), con("A.A"), con("A.B"),
		con("A", none), con("A", none, none), con("A", none, none, none), con("A", none, none, none, none),
		con("A", zero), con("A", one), con("A", zero, none), con("A", none, zero), con("A", zero, zero), con("A", zero, one), con("A", one, zero),
		con("A", zero, zero, zero, last), con("A", zero, zero, zero, first), con("B", none),
		prj("A", 0, vr(0)), prj("B", 0, vr(0)), prj("A", 1, vr(0)), prj("A", 11, vr(0)), prj("A", 0, vr(1)), prj("A", 0, con("A")),
		app(vr(0), vr(0)), lam(vr(0), vr(0)), pi(vr(0), vr(0)), app(vr(0), vr(1)), app(vr(1), vr(0)), lam(vr(1), vr(0)), pi(vr(0), vr(1)),
		let(vr(0), vr(0), vr(0)), let(vr(0), vr(1), vr(2)), let(vr(1), vr(1), vr(2)), let(vr(0), vr(0), vr(2)), let(vr(0), vr(1), vr(1)), let(vr(1), vr(0), vr(2)), let(vr(0), vr(2), vr(1)),
	}
	for i, x := range all {
		for j, y := range all {
			a := New()
			n, e := a.Put(lam(x, x))
			m, f := a.Put(lam(y, y))
			if e != api.OK || f != api.OK || (n == m) != (i == j) {
				t.Fatalf("%s, %s: %d, %d, errors %d, %d", text(x), text(y), n, m, e, f)
			}
		}
	}
	a, w := New(), newWords()
	for _, x := range all {
		isNot(t, a, x)
		mustPut(t, a, x, w.put(x))
	}
	for i, x := range all {
		if n := w.put(x); n != i {
			t.Fatalf("%s: the words say %d", text(x), n)
		}
	}
	holds(t, a, w, 0)
}

func TestPutOfEmptyLists(t *testing.T) {
	a := New()
	mustPut(t, a, app(con("A"), vr(1)), 2)
	for n, x := range []api.Term{
		{K: api.Const, S: "A", Ls: []api.Level{}, T: []api.Term{}},
		{K: api.Var, N: 1, Ls: []api.Level{}, T: []api.Term{}},
		{K: api.App, Ls: []api.Level{}, T: []api.Term{con("A"), vr(1)}},
	} {
		mustPut(t, a, x, n)
	}
	if a.Len() != 3 {
		t.Errorf("%d terms", a.Len())
	}
}

// What may not be is not put, and nothing of it.
func TestPutOfWhatMayNotBe(t *testing.T) {
	a, w := New(), newWords()
	x := lam(con("A"), app(vr(0), srt(two)))
	for round := range 2 {
		for i, b := range sample.Bads() {
			for _, y := range []api.Term{b, app(con("Z"), b), app(b, con("Z")), let(vr(0), b, srt(two))} {
				if n, e := a.Put(y); n != 0 || e != api.ErrArg {
					t.Fatalf("the one %d: %d, error %d", i, n, e)
				}
				isNot(t, a, y)
			}
		}
		isNot(t, a, con("Z"))
		holds(t, a, w, 0)
		if round == 0 {
			mustPut(t, a, x, w.put(x))
		}
	}
}

// The greatest and the deepest terms that may be, and one more.
func TestPutOfTheGreatest(t *testing.T) {
	a := New()
	x := sample.OfSize(api.TopTerm)
	n, e := a.Put(x)
	if e != api.OK || n != a.Len()-1 || a.Size(n) != api.TopTerm {
		t.Fatalf("%d, error %d, Size %d", n, e, a.Size(n))
	}
	for i, step := range sample.Steps() {
		y := sample.OfDepth(api.TopDepth, vr(0), step)
		n, e := a.Put(y)
		if m, is := a.Find(sample.Clone(y)); e != api.OK || m != n || !is || a.Deep(n) != api.TopDepth {
			t.Errorf("way %d: %d, error %d, Deep %d", i, n, e, a.Deep(n))
		}
		was := a.Len()
		if n, e := a.Put(step(y)); n != 0 || e != api.ErrArg || a.Len() != was {
			t.Errorf("way %d, one more: %d, error %d, %d terms more", i, n, e, a.Len()-was)
		}
	}
	was := a.Len()
	if n, e := a.Put(prj("S", 0, x)); n != 0 || e != api.ErrArg || a.Len() != was {
		t.Errorf("one more: %d, error %d, %d terms more", n, e, a.Len()-was)
	}
}
