package arena

import (
	"slices"
	"testing"

	"batten/api"
	"batten/sample"
	"batten/term"
)

var (
	zero, two, param, great = sample.Zero, sample.Two, sample.Param, sample.Great

	srt, vr, con, prj = sample.Sort, sample.Var, sample.Const, sample.Proj
	app, lam, pi, let = sample.App, sample.Lam, sample.Pi, sample.Let
	text, zeroTerm    = sample.Text, sample.IsZero
	some              = sample.Some
)

// words is an arena as the chapter's words say it: terms, and where they stand, by what tells them apart.
type words struct {
	l  []api.Term
	at map[string]int
}

func newWords() *words { return &words{at: map[string]int{}} }

// put a term that may be.
func (w *words) put(t api.Term) int {
	s := text(t)
	if n, is := w.at[s]; is {
		return n
	}
	for _, x := range t.T {
		w.put(x)
	}
	w.l = append(w.l, sample.Clone(t))
	w.at[s] = len(w.l) - 1
	return w.at[s]
}

// deepOf: how many nodes stand in one another.
func deepOf(t api.Term) int {
	n := 0
	for _, x := range t.T {
		n = max(n, deepOf(x))
	}
	return n + 1
}

// mustPut: a term that gets this number.
func mustPut(t *testing.T, a *Arena, x api.Term, want int) {
	t.Helper()
	if n, e := a.Put(x); n != want || e != api.OK {
		t.Fatalf("Put: %d, error %d, want %d", n, e, want)
	}
}

// holds: is in the arena, from a number on, what the words say, and nothing behind it?
func holds(t *testing.T, a *Arena, w *words, from int) {
	t.Helper()
	if a.Len() != len(w.l) {
		t.Fatalf("Len: %d, want %d", a.Len(), len(w.l))
	}
	for i := from; i < len(w.l); i++ {
		x := w.l[i]
		got, e := a.Get(i)
		if e != api.OK || text(got) != text(x) {
			t.Fatalf("Get of %d: error %d, %s, want %s", i, e, text(got), text(x))
		}
		if n, is := a.Find(x); n != i || !is {
			t.Fatalf("Find of %s: %d, %v, want %d", text(x), n, is, i)
		}
		var kids []int
		for _, p := range x.T {
			kids = append(kids, w.at[text(p)])
		}
		if l, e := a.Kids(i); e != api.OK || !slices.Equal(l, kids) {
			t.Fatalf("Kids of %s: error %d, %v, want %v", text(x), e, l, kids)
		}
		if a.Size(i) != term.Size(x) || a.Deep(i) != deepOf(x) || a.Free(i) != term.Free(x) {
			t.Fatalf("%s: Size %d, Deep %d, Free %d", text(x), a.Size(i), a.Deep(i), a.Free(i))
		}
	}
	for _, n := range []int{-1, len(w.l)} {
		nothingAt(t, a, n, api.ErrNone)
	}
}

// nothingAt: is that said of a number, and nothing else?
func nothingAt(t *testing.T, a *Arena, n int, want api.Errno) {
	t.Helper()
	if x, e := a.Get(n); e != want || !zeroTerm(x) {
		t.Errorf("Get of %d: error %d, %s", n, e, text(x))
	}
	if l, e := a.Kids(n); e != want || len(l) != 0 {
		t.Errorf("Kids of %d: error %d, %v", n, e, l)
	}
	if a.Size(n) != 0 || a.Deep(n) != 0 || a.Free(n) != 0 {
		t.Errorf("of %d: Size %d, Deep %d, Free %d", n, a.Size(n), a.Deep(n), a.Free(n))
	}
}

// isNot: is a term not there?
func isNot(t *testing.T, a *Arena, x api.Term) {
	t.Helper()
	if n, is := a.Find(x); n != 0 || is {
		t.Errorf("Find: %d, %v", n, is)
	}
}
