package subst

import (
	"slices"
	"strconv"
	"testing"

	"batten/api"
	"batten/sample"
	"batten/term"
)

// P4.5

func TestInstOfClosed(t *testing.T) {
	n := 0
	for _, x := range sample.Small() {
		if term.Free(x) > 0 {
			continue
		}
		n++
		for _, l := range lists() {
			want(t, text(x), of(Inst(x, l...)), of(x, 0))
		}
	}
	if n == 0 {
		t.Error("none of them is without free variables")
	}
}

// Where each of both may be made: of what is taken down first some variables may be missed.
func TestLiftOfLift(t *testing.T) {
	n := 0
	for _, x := range some(7) {
		for _, from := range []int{0, 1, 2} {
			for _, a := range []int{-2, -1, 0, 1, 3, far - 9} {
				for _, b := range []int{-far + 9, -1, 0, 1, 2, 7} {
					once, e := Lift(x, from, a)
					if e != api.OK {
						continue
					}
					twice, e := Lift(once, from, b)
					if e != api.OK {
						continue
					}
					n++
					want(t, text(x)+" by "+strconv.Itoa(a)+", "+strconv.Itoa(b), of(Lift(x, from, a+b)), of(twice, 0))
				}
			}
		}
	}
	if n < 1000 {
		t.Errorf("only %d were lifted twice", n)
	}
}

func TestInstOfLift(t *testing.T) {
	for _, x := range some(3) {
		up, e := Lift(x, 0, 1)
		if e != api.OK {
			continue
		}
		if term.Has(up, 0) {
			t.Fatalf("%s has the variable 0", text(up))
		}
		for _, y := range []api.Term{con("c"), vr(0), vr(far), sample.OfSize(1000)} {
			want(t, text(x), of(Inst(up, y)), of(x, 0))
		}
		want(t, text(x)+", down", of(Lift(up, 0, -1)), of(x, 0))
	}
}

func TestInstOfClose(t *testing.T) {
	n := 0
	for _, x := range some(3) {
		for _, k := range []int{0, 1, 2, 3, 7, far} {
			if k+1 < term.Free(x) {
				continue
			}
			shut, e := Close(x, k)
			if e != api.OK {
				t.Fatalf("%s at %d: error %d", text(x), k, e)
			}
			n++
			want(t, text(x)+" at "+strconv.Itoa(k), of(Inst(shut, vr(k))), of(x, 0))
		}
	}
	if n < 1000 {
		t.Errorf("only %d were closed", n)
	}
}

// R2 to R5

// What is handed in stays as it is, the room behind the ends of its lists, too; lists are not kept; the same is answered again.
func TestNothingIsTurned(t *testing.T) {
	room := []api.Term{con("A", param), vr(0), lam(vr(1), vr(3)), con("b"), con("a")}
	levels := []api.Level{param, two, zero, great}
	inner := append(make([]api.Term, 0, 4), lam(srt(param), app(vr(1), vr(0))), vr(1), con("y"), con("z"))
	own := append(make([]api.Level, 0, 4), param, two, zero)
	x := api.Term{K: api.App, T: []api.Term{{K: api.App, T: inner[:2]}, {K: api.Const, S: "A", Ls: own[:1]}}}
	look := func() string {
		return text(sample.Node(0, room...)) + text(sample.Node(0, inner[:4]...)) + text(con("", levels...)) + text(con("", own[:4]...)) + text(x)
	}
	calls := func(l []api.Term, by []api.Level) []answered {
		return []answered{
			of(Lift(x, 0, 2)), of(Lift(x, 1, -1)), of(Close(x, 1)), of(Close(x, 9)),
			of(Inst(x, l...)), of(Inst(room[2], l...)), of(Levels(x, by)), of(Levels(room[0], by)),
		}
	}
	was := look()
	for n := range len(room) {
		l, by := slices.Clone(room), slices.Clone(levels)
		first, again := calls(room[:n], levels[:n]), calls(l[:n], by[:n])
		clear(l)
		clear(by)
		if look() != was {
			t.Fatalf("with %d: %s", n, look())
		}
		for i := range first {
			want(t, "again, "+strconv.Itoa(i), again[i], first[i])
		}
	}
}

// Trees with empty lists in the place of nil ones.
func TestEmptyLists(t *testing.T) {
	x := app(api.Term{K: api.Var, N: 1, Ls: []api.Level{}, T: []api.Term{}}, api.Term{K: api.Const, S: "A", Ls: []api.Level{}, T: []api.Term{}})
	x.Ls = []api.Level{}
	for _, got := range []answered{of(Lift(x, 0, 1)), of(Inst(x, con("c"), con("d"))), of(Close(x, 1)), of(Levels(x, nil))} {
		if got.e != api.OK || term.Size(got.t) != 3 {
			t.Errorf("error %d, %d nodes", got.e, term.Size(got.t))
		}
	}
}

// FuzzSubst: all calls, of any trees, held against the words. (R1)
func FuzzSubst(f *testing.F) {
	for k := range 10 {
		f.Add([]byte{byte(k), 1, 1, 1}, []byte{1, byte(k)}, 0, k)
		f.Add([]byte{4, 4, 5, byte(k), 1, 0, 3, 1, 1, 1, 8, 2, 4, 2, 3}, []byte{4, 5, 1, 3, 1, byte(k)}, k, -k)
		f.Add([]byte{7, 6, 3, 1, 0, 2, 1, byte(k), 2, 8, 1, 3, byte(200 + k)}, []byte{7, 1, 3, 1, 4, 1, 5}, k-1, 1<<20)
	}
	f.Fuzz(func(t *testing.T, b, c []byte, from, by int) {
		x, y := sample.Grown(b), sample.Grown(c)
		want(t, "Lift", of(Lift(x, from, by)), of(wordsLift(x, from, by)))
		want(t, "Close", of(Close(x, from)), of(wordsClose(x, from)))
		for _, l := range [][]api.Term{nil, {y}, {x, y}, {y, vr(5), y}} {
			want(t, "Inst", of(Inst(x, l...)), of(wordsInst(x, l...)))
		}
		for _, ls := range [][]api.Level{nil, {two}, {zero, param, great, two}, sample.BadLevels()} {
			want(t, "Levels", of(Levels(x, ls)), of(wordsLevels(x, ls)))
		}
	})
}
