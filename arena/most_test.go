package arena

import (
	"testing"

	"batten/api"
	"batten/sample"
)

// filled: an arena with so many terms, the variables from 0 on.
func filled(t *testing.T, n int) *Arena {
	t.Helper()
	a := New()
	for i := range n {
		mustPut(t, a, vr(i), i)
	}
	return a
}

// tooMany: may a term not be put, and is nothing of it there then?
func tooMany(t *testing.T, a *Arena, x api.Term, parts ...api.Term) {
	t.Helper()
	was := a.Len()
	for range 2 {
		if n, e := a.Put(x); n != 0 || e != api.ErrMany {
			t.Fatalf("Put: %d, error %d", n, e)
		}
		if a.Len() != was {
			t.Fatalf("%d terms, want %d", a.Len(), was)
		}
		for _, p := range append(parts, x) {
			isNot(t, a, p)
		}
		nothingAt(t, a, was, api.ErrNone)
	}
}

// What does not fit leaves nothing, and what fits then has the numbers that it would have had.
func TestPutUpToMost(t *testing.T) {
	if Most != 1<<18 {
		t.Fatalf("Most: %d", Most)
	}
	f, g := con("f"), con("g")
	x := app(f, g)
	a := filled(t, Most-2)
	tooMany(t, a, x, f, g)
	tooMany(t, a, prj("S", 0, x), f, g, x)
	tooMany(t, a, let(vr(0), f, app(g, vr(1))), f, g, app(g, vr(1)))
	tooMany(t, a, sample.OfDepth(api.TopDepth, con("h"), sample.Steps()[3]), con("h"), lam(vr(0), con("h")))
	mustPut(t, a, app(vr(7), g), Most-1) // g, too
	for i, want := range []api.Term{g, app(vr(7), g)} {
		if got, e := a.Get(Most - 2 + i); e != api.OK || text(got) != text(want) {
			t.Errorf("Get of %d: error %d, %s", Most-2+i, e, text(got))
		}
	}
	if a.Len() != Most {
		t.Errorf("%d terms", a.Len())
	}
	for _, y := range []api.Term{f, vr(Most - 2), app(vr(7), vr(7)), app(g, g), srt(two), prj("S", 0, app(vr(7), g))} {
		tooMany(t, a, y)
	}
	tooMany(t, a, lam(f, app(vr(7), g)), f)
}

// A full one has still all that it had, and takes what is there.
func TestPutInAFullOne(t *testing.T) {
	a := filled(t, Most-2)
	x := lam(vr(3), app(vr(3), vr(4)))
	mustPut(t, a, x, Most-1)
	tooMany(t, a, con("A"))
	for i := range Most - 2 {
		mustPut(t, a, vr(i), i)
	}
	mustPut(t, a, sample.Clone(x), Most-1)
	mustPut(t, a, x.T[1], Most-2)
	if got, e := a.Get(Most - 1); e != api.OK || text(got) != text(x) {
		t.Errorf("Get: error %d, %s", e, text(got))
	}
	if n, e := a.Put(api.Term{}); n != 0 || e != api.ErrArg {
		t.Errorf("Put of a zero term: %d, error %d", n, e)
	}
	if a.Len() != Most {
		t.Errorf("%d terms", a.Len())
	}
	nothingAt(t, a, Most, api.ErrNone)
	nothingAt(t, a, -1, api.ErrNone)
	for _, b := range sample.Bads() { // ErrArg goes ahead of ErrMany
		if n, e := a.Put(b); n != 0 || e != api.ErrArg {
			t.Errorf("of what may not be: %d, error %d", n, e)
		}
	}
}

// Just as many as there is room for, in one term.
func TestPutOfTheLastOnes(t *testing.T) {
	deep := sample.OfDepth(api.TopDepth, vr(0), sample.Steps()[9])
	a := filled(t, Most-api.TopDepth+1)
	mustPut(t, a, deep, Most-1)
	if a.Len() != Most || a.Deep(Most-1) != api.TopDepth {
		t.Errorf("%d terms, the last one of Deep %d", a.Len(), a.Deep(Most-1))
	}
	a = filled(t, Most-api.TopDepth+2)
	tooMany(t, a, deep, deep.T[0], prj("S", 0, vr(0)))
	mustPut(t, a, deep.T[0], Most-1)
}
