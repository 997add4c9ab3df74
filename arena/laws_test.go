package arena

import (
	"slices"
	"testing"

	"batten/api"
	"batten/sample"
	"batten/term"
)

// P5.3

func TestWhatIsPutIsGot(t *testing.T) {
	a := New()
	all := sample.Small()
	numbers := make([]int, len(all))
	for i, x := range all {
		n, e := a.Put(x)
		if e != api.OK {
			t.Fatalf("%s: error %d", text(x), e)
		}
		numbers[i] = n
		if got, e := a.Get(n); e != api.OK || !term.Same(got, x) {
			t.Fatalf("%s: error %d, %s", text(x), e, text(got))
		}
	}
	for i, x := range all { // numbers stay
		if got, e := a.Get(numbers[i]); e != api.OK || !term.Same(got, x) {
			t.Fatalf("%s, later: error %d, %s", text(x), e, text(got))
		}
		mustPut(t, a, x, numbers[i])
	}
	for i, x := range all {
		for j := i % 37; j < len(all); j += 37 {
			if (numbers[i] == numbers[j]) != term.Same(x, all[j]) {
				t.Fatalf("%s, %s: %d, %d", text(x), text(all[j]), numbers[i], numbers[j])
			}
		}
	}
}

// No two terms are the same, and each has its parts ahead.
func TestTermsAreThereOnce(t *testing.T) {
	a := New()
	for _, x := range some(3) {
		if _, e := a.Put(x); e != api.OK {
			t.Fatalf("error %d", e)
		}
	}
	seen := map[string]bool{}
	for n := range a.Len() {
		x, e := a.Get(n)
		if e != api.OK || seen[text(x)] {
			t.Fatalf("%d: error %d, %s", n, e, text(x))
		}
		seen[text(x)] = true
		kids, e := a.Kids(n)
		if e != api.OK || len(kids) != len(x.T) {
			t.Fatalf("%d: error %d, %v", n, e, kids)
		}
		for i, k := range kids {
			if p, _ := a.Get(k); k >= n || !term.Same(p, x.T[i]) {
				t.Fatalf("%s: its part %d is %d, %s", text(x), i, k, text(p))
			}
		}
	}
}

// tree: a term with all kinds of lists in it, in memory of its own, some of which is shared within.
func tree() api.Term {
	c := con("A", param, two)
	in := app(c, lam(srt(param), prj("S", 2, vr(0))))
	return let(in, pi(c, in), in)
}

// turn turns all that a term holds.
func turn(t *api.Term) {
	for i := range t.T {
		turn(&t.T[i])
	}
	for i := range t.Ls {
		t.Ls[i] = great
	}
	clear(t.T)
	*t = vr(77)
}

func TestWhatWasPutIsTurned(t *testing.T) {
	a, w := New(), newWords()
	x := tree()
	was := text(x)
	mustPut(t, a, x, w.put(x))
	if text(x) != was {
		t.Errorf("Put turned it: %s", text(x))
	}
	a.Find(x)
	if text(x) != was {
		t.Errorf("Find turned it: %s", text(x))
	}
	turn(&x)
	holds(t, a, w, 0)
	isNot(t, a, x)
}

func TestWhatGetAnsweredIsTurned(t *testing.T) {
	a, w := New(), newWords()
	x := tree()
	mustPut(t, a, x, w.put(x))
	for n := range a.Len() {
		got, e := a.Get(n)
		if e != api.OK {
			t.Fatalf("error %d", e)
		}
		again, _ := a.Get(n)
		was := text(again)
		turn(&got)
		if text(again) != was {
			t.Fatalf("%d: two answers share memory: %s", n, text(again))
		}
		holds(t, a, w, 0)
	}
}

// No part of an answer shares memory with another part.
func TestWhatGetAnsweredIsTurnedWithin(t *testing.T) {
	a, w := New(), newWords()
	x := tree()
	n := w.put(x)
	mustPut(t, a, x, n)
	got, _ := a.Get(n)
	want := text(got.T[2])
	turn(&got.T[0])
	if text(got.T[2]) != want || text(got.T[1].T[1]) != want {
		t.Errorf("%s, %s, want %s", text(got.T[1].T[1]), text(got.T[2]), want)
	}
	_ = append(got.T[2].T[:1], vr(9))
	if k := got.T[1].T[1]; text(k) != want {
		t.Errorf("%s, want %s", text(k), want)
	}
	holds(t, a, w, 0)
}

func TestWhatKidsAnsweredIsTurned(t *testing.T) {
	a, w := New(), newWords()
	x := tree()
	mustPut(t, a, x, w.put(x))
	for n := range a.Len() {
		l, _ := a.Kids(n)
		again, _ := a.Kids(n)
		was := slices.Clone(again)
		for i := range l {
			l[i] = -7
		}
		_ = append(l[:0], 99, 99, 99, 99)
		_ = append(l, 99)
		if !slices.Equal(again, was) {
			t.Fatalf("%d: two answers share memory: %v, want %v", n, again, was)
		}
	}
	holds(t, a, w, 0)
}

// The room behind the ends of lists that are handed in is neither turned nor looked at. (R3)
func TestRoomBehindLists(t *testing.T) {
	ls := []api.Level{param, two, zero, great, sample.BadLevels()[0]}
	parts := []api.Term{con("A"), {K: api.Const, S: "A", Ls: ls[:2]}, con("y"), {}}
	x := api.Term{K: api.App, T: parts[:2]}
	look := func() string { return text(sample.Node(0, parts...)) + text(con("", ls...)) }
	was := look()
	a, w := New(), newWords()
	mustPut(t, a, x, w.put(x))
	a.Find(x)
	if look() != was {
		t.Errorf("turned: %s", look())
	}
	clear(ls[2:])
	clear(parts[2:])
	mustPut(t, a, x, 2)
	holds(t, a, w, 0)
}

// What one arena is told says nothing to another one; the same calls have the same answers. (R5)
func TestArenasAreApart(t *testing.T) {
	a, b, w := New(), New(), newWords()
	all := some(17)
	for i, x := range all {
		mustPut(t, a, x, w.put(x))
		n, e := b.Put(all[len(all)-1-i])
		if e != api.OK || n >= b.Len() {
			t.Fatalf("%d, error %d", n, e)
		}
	}
	holds(t, a, w, 0)
	if b.Len() != a.Len() {
		t.Errorf("%d, %d terms", a.Len(), b.Len())
	}
}

// FuzzArena: terms, one behind another, held against the words. (R1)
func FuzzArena(f *testing.F) {
	for k := range 10 {
		f.Add([]byte{byte(k), 1, 1, 1}, []byte{1, byte(k)}, []byte{2, 1, 4, byte(k)}, k)
		f.Add([]byte{4, 4, 5, byte(k), 1, 0, 3, 1, 1, 1, 8, 2, 4, 2, 3}, []byte{4, 5, 1, 3, 1, byte(k)}, []byte{3, 1, 1, 1}, -k)
		f.Add([]byte{7, 6, 3, 1, 0, 2, 1, byte(k), 2, 8, 1, 3, byte(200 + k)}, []byte{7, 1, 3, 1, 4, 1, 5}, []byte{7, 6, 3, 1, 0, 2, 1, byte(k), 2}, 1<<20)
	}
	f.Fuzz(func(t *testing.T, b, c, d []byte, n int) {
		a, w := New(), newWords()
		x, y, z := sample.Grown(b), sample.Grown(c), sample.Grown(d)
		for _, p := range []api.Term{x, y, app(y, x), lam(z, z), x, pi(z, y), let(x, y, z), app(app(y, x), y)} {
			was := len(w.l)
			if !term.May(p) {
				if n, e := a.Put(p); n != 0 || e != api.ErrArg {
					t.Fatalf("Put: %d, error %d", n, e)
				}
				isNot(t, a, p)
			} else {
				mustPut(t, a, p, w.put(p))
			}
			holds(t, a, w, was)
		}
		holds(t, a, w, 0)
		if n < 0 || n >= a.Len() {
			nothingAt(t, a, n, api.ErrNone)
		}
	})
}
