package level

import (
	"math"
	"slices"
	"testing"

	"batten/api"
)

const (
	top = api.TopLevel
	far = 1 << 41
)

type point = [api.MaxParams]int

// lv: a level of C and the first P, the others of which are not there.
func lv(c int, ps ...int) api.Level {
	l := api.Level{C: c, P: point{-1, -1, -1, -1}}
	copy(l.P[:], ps)
	return l
}

// words: is it one that the chapter's words say may be?
func words(l api.Level) bool {
	greater := false
	for _, n := range l.P {
		if n < -1 || n > top {
			return false
		}
		greater = greater || n >= l.C
	}
	return l.C >= 0 && l.C <= top && (!greater || l.C == 0)
}

// value: the greatest of C and all p(i) + P[i], in its form or not.
func value(l api.Level, p point) int {
	out := l.C
	for i, n := range l.P {
		if n != -1 && p[i]+n > out {
			out = p[i] + n
		}
	}
	return out
}

// grid: all levels, that may be or not, whose numbers are some of these.
func grid(ns ...int) []api.Level {
	var out []api.Level
	for _, c := range ns {
		for _, p0 := range ns {
			for _, p1 := range ns {
				for _, p2 := range ns {
					for _, p3 := range ns {
						out = append(out, lv(c, p0, p1, p2, p3))
					}
				}
			}
		}
	}
	return out
}

// mays: those of the grid that may be.
func mays(ns ...int) []api.Level {
	return slices.DeleteFunc(grid(ns...), func(l api.Level) bool { return !words(l) })
}

// pairs: levels that may be, of two parameters, the first and the last one, few enough to be held against each other.
func pairs() []api.Level {
	var out []api.Level
	ns := []int{-1, 0, 1, 2, top - 1, top}
	for _, c := range ns {
		for _, p0 := range ns {
			for _, p3 := range ns {
				if l := lv(c, p0, -1, -1, p3); words(l) {
					out = append(out, l)
				}
			}
		}
	}
	return out
}

// points at which two levels that are not the same, or not at most one another, differ: of a P by one parameter that is above all C.
func points() []point {
	out := []point{{}, {1, 1, 1, 1}, {far, far, far, far}, {3, 0, 2, 1}}
	for i := range api.MaxParams {
		for _, n := range []int{1, 2, top - 1, top, far} {
			var p point
			p[i] = n
			out = append(out, p)
		}
	}
	return out
}

// bads: levels that may not be, one for each way to be so.
var bads = []api.Level{
	lv(-1),
	lv(-1, 0),
	lv(math.MinInt),
	lv(top + 1),
	lv(math.MaxInt),
	lv(top+1, top),
	lv(0, -2),
	lv(0, 0, 0, 0, -2),
	lv(0, math.MinInt),
	lv(0, top+1),
	lv(0, -1, -1, -1, top+1),
	lv(0, math.MaxInt),
	lv(0, 0, math.MaxInt, 0, 0),
	lv(1, 1),
	lv(1, 2),
	lv(1, 0, -1, -1, 1),
	lv(top, top),
	lv(top, -1, top),
	lv(3, 0, 1, 2, 3),
}

// wantNone: an error, and the zero level with it.
func wantNone(t *testing.T, what string, l api.Level, e, want api.Errno) {
	t.Helper()
	if e != want || l != (api.Level{}) {
		t.Errorf("%s: %v, %d; want nothing, %d", what, l, e, want)
	}
}

func wantLevel(t *testing.T, what string, l api.Level, e api.Errno, want api.Level) {
	t.Helper()
	if e != api.OK || l != want {
		t.Errorf("%s: %v, %d; want %v", what, l, e, want)
	}
}

// P2.1

func TestMay(t *testing.T) {
	for _, l := range []api.Level{
		lv(0), lv(1), lv(top - 1), lv(top),
		{}, // p(0) to p(3), the greatest
		lv(0, 0), lv(0, top), lv(0, -1, -1, -1, top), lv(0, top, top, top, top),
		lv(1, 0), lv(2, 1, 0, -1, 1), lv(top, top-1), lv(top, top-1, top-1, top-1, top-1),
	} {
		if !May(l) {
			t.Errorf("%v may not be", l)
		}
	}
	for _, l := range bads {
		if May(l) {
			t.Errorf("%v may be", l)
		}
	}
}

func TestMayIsAsToldOfAll(t *testing.T) {
	for _, ns := range [][]int{{-2, -1, 0, 1, 2, 3}, {math.MinInt, -1, 0, top - 1, top, top + 1, math.MaxInt}} {
		for _, l := range grid(ns...) {
			if May(l) != words(l) {
				t.Fatalf("%v: may be: %v", l, !words(l))
			}
		}
	}
}

// There is one form for each: what is the same at all parameters is the same.
func TestOneForm(t *testing.T) {
	seen := map[string]api.Level{}
	for _, l := range mays(-1, 0, 1, 2) {
		var at []byte
		for _, p := range points() {
			for n := At(l, p); n > 0; n >>= 8 {
				at = append(at, byte(n))
			}
			at = append(at, ',')
		}
		if other, there := seen[string(at)]; there {
			t.Errorf("%v and %v are the same at all parameters", l, other)
		}
		seen[string(at)] = l
	}
}

func TestZero(t *testing.T) {
	z := Zero()
	if z != lv(0) || !May(z) {
		t.Errorf("%v", z)
	}
	z.P[0] = 5
	if Zero() != lv(0) {
		t.Error("what was answered once was turned")
	}
	for _, p := range points() {
		if n := At(Zero(), p); n != 0 {
			t.Errorf("at %v: %d", p, n)
		}
	}
}

func TestParam(t *testing.T) {
	for i := range api.MaxParams {
		want := lv(0)
		want.P[i] = 0
		l, e := Param(i)
		wantLevel(t, "a parameter", l, e, want)
		for _, p := range points() {
			if n := At(l, p); n != p[i] {
				t.Errorf("p(%d) at %v: %d", i, p, n)
			}
		}
	}
	for _, i := range []int{-1, api.MaxParams, api.MaxParams + 1, math.MinInt, math.MaxInt} {
		l, e := Param(i)
		wantNone(t, "no parameter", l, e, api.ErrArg)
	}
}

func TestAt(t *testing.T) {
	for _, c := range []struct {
		l    api.Level
		p    point
		want int
	}{
		{lv(0), point{7, 7, 7, 7}, 0},
		{lv(5), point{7, 7, 7, 7}, 5},
		{lv(0, 0), point{7, 8, 9, 10}, 7},
		{lv(0, -1, -1, -1, 0), point{7, 8, 9, 10}, 10},
		{lv(0, 2), point{}, 2},
		{lv(5, 2), point{2}, 5},
		{lv(5, 2), point{3}, 5},
		{lv(5, 2), point{4}, 6},
		{lv(9, 3, 2, 1, 0), point{6, 7, 8, 9}, 9},
		{lv(9, 3, 2, 1, 0), point{1, 1, 11, 1}, 12},
		{api.Level{}, point{1, 4, 3, 2}, 4},
		{lv(top), point{far, far, far, far}, top},
		{lv(0, top), point{far}, far + top},
		{lv(0, -1, -1, -1, top), point{far, far, far, far}, far + top},
		{lv(0, 0), point{far}, far},
	} {
		if n := At(c.l, c.p); n != c.want {
			t.Errorf("%v at %v: %d, want %d", c.l, c.p, n, c.want)
		}
	}
	for _, l := range mays(-1, 0, 1, 2) {
		for _, p := range points() {
			if n := At(l, p); n != value(l, p) {
				t.Fatalf("%v at %v: %d", l, p, n)
			}
		}
	}
}

func TestAtNothing(t *testing.T) {
	for _, l := range bads {
		for _, p := range points() {
			if n := At(l, p); n != 0 {
				t.Errorf("%v, that may not be, at %v: %d", l, p, n)
			}
		}
	}
	for i := range api.MaxParams { // also of a parameter that the level has not
		for _, n := range []int{-1, far + 1, math.MinInt, math.MaxInt} {
			p := point{1, 1, 1, 1}
			p[i] = n
			for _, l := range []api.Level{lv(5), lv(0, 1), lv(5, -1, -1, -1, 2), {}} {
				if x := At(l, p); x != 0 {
					t.Errorf("%v at %v: %d", l, p, x)
				}
			}
		}
	}
}

// P2.2

func TestSucc(t *testing.T) {
	for _, c := range [][2]api.Level{
		{lv(0), lv(1)},
		{lv(7), lv(8)},
		{lv(0, 0), lv(0, 1)},
		{{}, lv(0, 1, 1, 1, 1)},
		{lv(2, 1, -1, 0), lv(3, 2, -1, 1)},
		{lv(top - 1), lv(top)},
		{lv(0, top-1), lv(0, top)},
		{lv(top-1, top-2), lv(top, top-1)},
	} {
		l, e := Succ(c[0])
		wantLevel(t, "one more", l, e, c[1])
	}
	for _, l := range []api.Level{lv(top), lv(0, top), lv(0, -1, -1, -1, top), lv(0, 0, top), lv(top, 0), lv(top, top-1)} {
		s, e := Succ(l)
		wantNone(t, "one more than the greatest", s, e, api.ErrMany)
	}
	for _, l := range bads {
		s, e := Succ(l)
		wantNone(t, "one more than what may not be", s, e, api.ErrArg)
	}
}

func TestSuccIsOneMoreAtAll(t *testing.T) {
	for _, l := range mays(-1, 0, 1, 2) {
		s, e := Succ(l)
		if e != api.OK || !words(s) {
			t.Fatalf("of %v: %v, %d", l, s, e)
		}
		for _, p := range points() {
			if value(s, p) != value(l, p)+1 {
				t.Fatalf("of %v: %v, at %v", l, s, p)
			}
		}
	}
}

func TestMax(t *testing.T) {
	for _, c := range [][3]api.Level{
		{lv(2), lv(0, 2), lv(0, 2)}, // the chapter's
		{lv(0), lv(0), lv(0)},
		{lv(3), lv(5), lv(5)},
		{lv(3), lv(0, 2), lv(3, 2)},
		{lv(3), lv(0, 3), lv(0, 3)},
		{lv(3, 2), lv(0, -1, -1, -1, 5), lv(0, 2, -1, -1, 5)},
		{lv(0, 0), lv(0, -1, 0), lv(0, 0, 0)},
		{lv(0, 1, 4), lv(0, 2, 3), lv(0, 2, 4)},
		{lv(top), lv(0, top-1), lv(top, top-1)},
		{lv(top), lv(0, top), lv(0, top)},
		{lv(top, top-1), lv(0, top), lv(0, top)},
	} {
		l, e := Max(c[0], c[1])
		wantLevel(t, "the greater one", l, e, c[2])
		l, e = Max(c[1], c[0])
		wantLevel(t, "the greater one, the other way round", l, e, c[2])
	}
	for _, b := range bads {
		l, e := Max(b, lv(0))
		wantNone(t, "of what may not be", l, e, api.ErrArg)
		l, e = Max(lv(0), b)
		wantNone(t, "of what may not be, behind", l, e, api.ErrArg)
		l, e = Max(b, b)
		wantNone(t, "of what may not be, twice", l, e, api.ErrArg)
		l, e = Max(b, lv(0, top, top, top, top)) // though the greater one might be
		wantNone(t, "of what may not be, and the greatest", l, e, api.ErrArg)
	}
}

func TestMaxIsTheGreaterOneAtAll(t *testing.T) {
	all := pairs()
	for _, a := range all {
		for _, b := range all {
			m, e := Max(a, b)
			if e != api.OK || !words(m) {
				t.Fatalf("of %v, %v: %v, %d", a, b, m, e)
			}
			for _, p := range points() {
				if value(m, p) != max(value(a, p), value(b, p)) {
					t.Fatalf("of %v, %v: %v, at %v", a, b, m, p)
				}
			}
		}
	}
}

func TestInst(t *testing.T) {
	for _, c := range []struct {
		l    api.Level
		by   []api.Level
		want api.Level
	}{
		{lv(0, 1), []api.Level{lv(0, -1, 0)}, lv(0, -1, 1)}, // the chapter's
		{lv(0), nil, lv(0)},
		{lv(7), []api.Level{}, lv(7)},
		{lv(7), []api.Level{lv(9)}, lv(7)},
		{lv(0, 0), []api.Level{lv(0)}, lv(0)},
		{lv(0, 3), []api.Level{lv(0)}, lv(3)},
		{lv(0, 3), []api.Level{lv(4, 1)}, lv(7, 4)},
		{lv(5, 3), []api.Level{lv(1)}, lv(5)},
		{lv(5, 3), []api.Level{lv(4)}, lv(7)},
		{lv(5, 3), []api.Level{lv(0, 1)}, lv(5, 4)},
		{lv(5, 3), []api.Level{lv(0, 2)}, lv(0, 5)},
		{lv(0, 0, 0), []api.Level{lv(0, -1, 0), lv(0, 0)}, lv(0, 0, 0)}, // all at a time
		{lv(0, 1, 2), []api.Level{lv(0, -1, 0), lv(0, 0)}, lv(0, 2, 1)},
		{lv(0, 1, 2), []api.Level{lv(0, 3), lv(0, 3)}, lv(0, 5)},
		{lv(0, 1, 2), []api.Level{lv(4), lv(0, -1, -1, 1)}, lv(5, -1, -1, 3)},
		{lv(0, -1, 2), []api.Level{lv(9), lv(1)}, lv(3)}, // what is not there is not asked
		{api.Level{}, []api.Level{lv(1), lv(2), lv(3), lv(4)}, lv(4)},
		{api.Level{}, []api.Level{{}, {}, {}, {}}, api.Level{}},
		{lv(0, 0), []api.Level{lv(2), lv(3), lv(4), lv(5), lv(6), lv(7)}, lv(2)}, // more than there are parameters
		{lv(0, top), []api.Level{lv(0)}, lv(top)},
		{lv(0, 0), []api.Level{lv(top, top-1)}, lv(top, top-1)},
		{lv(0, top), []api.Level{lv(0, 0)}, lv(0, top)},
		{lv(0, 1), []api.Level{lv(top-1, top-2)}, lv(top, top-1)},
	} {
		l, e := Inst(c.l, c.by)
		wantLevel(t, "with levels", l, e, c.want)
	}
}

func TestInstErrors(t *testing.T) {
	for _, c := range []struct {
		l  api.Level
		by []api.Level
		e  api.Errno
	}{
		{lv(0, 0), nil, api.ErrLevel},
		{lv(0, 0), []api.Level{}, api.ErrLevel},
		{lv(0, -1, 0), []api.Level{lv(1)}, api.ErrLevel},
		{lv(9, -1, -1, -1, 0), []api.Level{lv(1), lv(1), lv(1)}, api.ErrLevel},
		{lv(0, top, 0), []api.Level{lv(1)}, api.ErrLevel}, // nothing is to be answered that were too great
		{api.Level{}, nil, api.ErrLevel},                  // p(0) to p(3)
		{lv(0, top), []api.Level{lv(1)}, api.ErrMany},
		{lv(0, 1), []api.Level{lv(top)}, api.ErrMany},
		{lv(0, 1), []api.Level{lv(0, -1, top)}, api.ErrMany},
		{lv(0, 1), []api.Level{lv(top, top-2)}, api.ErrMany},
		{lv(0, top), []api.Level{lv(0, 1)}, api.ErrMany},
		{lv(0, top), []api.Level{lv(top, top-1)}, api.ErrMany},
		{lv(0, top, top, top, top), []api.Level{lv(0), lv(0), lv(0), lv(1)}, api.ErrMany},
	} {
		l, e := Inst(c.l, c.by)
		wantNone(t, "that fails", l, e, c.e)
	}
	for _, b := range bads {
		for _, by := range [][]api.Level{nil, {lv(0)}, {lv(0), lv(1), lv(2), lv(3)}, {b}} {
			l, e := Inst(b, by)
			wantNone(t, "of what may not be", l, e, api.ErrArg)
		}
		for _, by := range [][]api.Level{{b}, {lv(0), b}, {lv(0), lv(0), lv(0), b}, {b, lv(0)}, {lv(0), lv(0), lv(0), lv(0), b}} {
			for _, l := range []api.Level{lv(0), lv(3, 2), lv(0, top), lv(0, -1, -1, -1, 0)} { // whether it has that parameter or not
				l, e := Inst(l, by)
				wantNone(t, "by what may not be", l, e, api.ErrArg)
			}
		}
	}
}

func TestInstTurnsNothing(t *testing.T) {
	room := []api.Level{lv(1), lv(2, 1), lv(-7), lv(0, 9)}
	was := slices.Clone(room)
	for n := range len(room) + 1 {
		Inst(lv(0, 1, 2), room[:n])
		if !slices.Equal(room, was) {
			t.Fatalf("of %d: %v", n, room)
		}
	}
}

// P2.3

func TestLeq(t *testing.T) {
	for _, c := range []struct {
		a, b api.Level
		want bool
	}{
		{lv(1), lv(0, 1), true},  // the chapter's
		{lv(2), lv(0, 1), false}, // the chapter's
		{lv(0), lv(0), true},
		{lv(0), lv(0, 0), true},
		{lv(0, 0), lv(0), false},
		{lv(0, 0), lv(top), false}, // parameters have no end
		{lv(3), lv(4), true},
		{lv(4), lv(3), false},
		{lv(3), lv(3, 1), true},
		{lv(3, 1), lv(3), false},
		{lv(0, 1), lv(0, 2), true},
		{lv(0, 2), lv(0, 1), false},
		{lv(0, 0), lv(0, -1, 0), false},
		{lv(0, 0), lv(0, 0, 0), true},
		{lv(3, 1), lv(0, 3), true},
		{lv(4, 1), lv(0, 3), false},
		{lv(4, 1), lv(0, 1, 4), true},
		{lv(0, top), lv(0, top), true},
		{lv(top), lv(0, top), true},
		{lv(0, top), lv(top, top-1), false},
	} {
		if Leq(c.a, c.b) != c.want {
			t.Errorf("%v, %v: %v", c.a, c.b, !c.want)
		}
	}
	for _, b := range bads {
		for _, l := range []api.Level{lv(0), lv(top), {}, lv(0, top, top, top, top), b} {
			if Leq(b, l) || Leq(l, b) {
				t.Errorf("%v, that may not be, and %v", b, l)
			}
		}
	}
}

func TestLeqIsAtMostAtAll(t *testing.T) {
	all := pairs()
	for _, a := range all {
		for _, b := range all {
			want := true
			for _, p := range points() {
				want = want && value(a, p) <= value(b, p)
			}
			if Leq(a, b) != want {
				t.Fatalf("%v, %v: %v", a, b, !want)
			}
		}
	}
}

// P2.4

func TestLeqIsAnOrder(t *testing.T) {
	all := mays(-1, 0, 1)
	above := make([][]int, len(all))
	for i, a := range all {
		if !Leq(a, a) {
			t.Errorf("%v is not at most itself", a)
		}
		for j, b := range all {
			if !Leq(a, b) {
				continue
			}
			above[i] = append(above[i], j)
			if i != j && Leq(b, a) {
				t.Errorf("%v, %v are at most one another", a, b)
			}
		}
	}
	for i, js := range above {
		for _, j := range js {
			for _, k := range above[j] {
				if !slices.Contains(above[i], k) {
					t.Fatalf("%v, %v, %v", all[i], all[j], all[k])
				}
			}
		}
	}
}

func TestMaxIsTheLeast(t *testing.T) {
	all := pairs()
	for _, a := range all {
		for _, b := range all {
			m, _ := Max(a, b)
			if !Leq(a, m) || !Leq(b, m) {
				t.Fatalf("%v, %v are not at most %v", a, b, m)
			}
			for _, c := range all {
				if Leq(a, c) && Leq(b, c) && !Leq(m, c) {
					t.Fatalf("%v, %v are at most %v, but %v is not", a, b, c, m)
				}
			}
		}
	}
}

func TestInstAtParameters(t *testing.T) {
	by := []api.Level{lv(0), lv(2), lv(0, 0), lv(0, -1, 1), lv(3, 2, -1, 0), lv(1, -1, -1, -1, 0), {}}
	ps := points()
	for _, l := range mays(-1, 0, 2) {
		for i := range by {
			list := []api.Level{by[i], by[(i+1)%len(by)], by[(i*3+2)%len(by)], by[(i*5+4)%len(by)]}
			got, e := Inst(l, list)
			if e != api.OK || !words(got) {
				t.Fatalf("%v by %v: %v, %d", l, list, got, e)
			}
			for _, p := range ps {
				var q point
				for k := range q {
					q[k] = value(list[k], p)
				}
				if value(got, p) != value(l, q) {
					t.Fatalf("%v by %v: %v, at %v", l, list, got, p)
				}
				if slices.Max(q[:]) <= far && At(got, p) != At(l, q) {
					t.Fatalf("%v by %v: %v, by At of %v", l, list, got, p)
				}
			}
		}
	}
}

// Where Inst says that it is too many, a number of what is the same at all parameters is.
func TestInstManyJustIfTooGreat(t *testing.T) {
	all := pairs()
	many := 0
	for _, l := range all {
		for _, a := range all {
			for _, b := range []api.Level{lv(0), lv(top, 1), lv(0, 0, top-1)} {
				by := []api.Level{a, lv(0), lv(0), b}
				got, e := Inst(l, by)
				want := tooGreat(l, by)
				if want {
					many++
				}
				if (e == api.ErrMany) != want || !want && (e != api.OK || !words(got)) {
					t.Fatalf("%v by %v: %v, %d", l, by, got, e)
				}
			}
		}
	}
	if many == 0 {
		t.Error("nothing is too great")
	}
}

// tooGreat: is a number of l by these above TopLevel? At 0 a level is the greatest one of its numbers.
func tooGreat(l api.Level, by []api.Level) bool {
	var q point
	for k := range q {
		q[k] = value(by[k], point{})
	}
	return value(l, q) > top
}

// FuzzLevels: all calls, of any numbers. (R1)
func FuzzLevels(f *testing.F) {
	for _, l := range append(pairs(), bads...) {
		f.Add(l.C, l.P[0], l.P[3], 0, -1, 0)
		f.Add(0, 1, -1, l.C, l.P[0], l.P[3])
	}
	f.Fuzz(func(t *testing.T, c, p, q, c2, p2, q2 int) {
		a, b := lv(c, p, -1, -1, q), lv(c2, p2, q2)
		if May(a) != words(a) {
			t.Fatalf("%v: %v", a, May(a))
		}
		check := func(l api.Level, e api.Errno, ok bool) {
			t.Helper()
			if e == api.OK && !(ok && words(l)) || e != api.OK && l != (api.Level{}) || (e == api.ErrArg) == ok {
				t.Fatalf("of %v, %v: %v, %d", a, b, l, e)
			}
		}
		l, e := Succ(a)
		check(l, e, words(a))
		l, e = Max(a, b)
		check(l, e, words(a) && words(b))
		l, e = Inst(a, []api.Level{b, a, b, b})
		check(l, e, words(a) && words(b))
		if Leq(a, b) && At(a, point{c, p, q, c2}) > At(b, point{c, p, q, c2}) {
			t.Fatalf("%v is not at most %v", a, b)
		}
	})
}
