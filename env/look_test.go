package env

import (
	"slices"
	"testing"

	"batten/api"
	"batten/sample"
)

// P7.2

func TestFindAndList(t *testing.T) {
	e, _ := filled(t, sample.NumberInfos()...)
	for i, s := range []string{"N", "N.zero", "N.succ", "N.rec"} {
		x, is := e.Find(s)
		if !is || infoText(x) != infoText(sample.NumberInfos()[i]) {
			t.Errorf("Find of %q: %v, %s", s, is, infoText(x))
		}
	}
	for _, s := range []string{"", "n", "N.", "N.zer", "N.zeroo", " N", "N\x00", sample.Name33, string(make([]byte, 1<<20))} {
		isNot(t, e, s)
	}
	if l := e.List(); !slices.Equal(l, []string{"N", "N.zero", "N.succ", "N.rec"}) {
		t.Errorf("List: %q", l)
	}
	f, _ := filled(t, axiom(0, "b", srt(zero)), axiom(0, "a", srt(zero)), axiom(0, "B", srt(zero)), axiom(0, "c", srt(zero)))
	f.Add(axiom(0, "A", srt(zero)))
	if l := f.List(); !slices.Equal(l, []string{"b", "a", "B", "c", "A"}) { // as added, not rising
		t.Errorf("List: %q", l)
	}
}

// What was handed in or answered and is turned later says nothing to the environment. (R3)
func TestWhatIsTurnedLaterSaysNothing(t *testing.T) {
	room := sample.Infos()
	l := room[: len(room)-1 : len(room)-1]
	last := infoText(room[len(room)-1])
	e, w := filled(t, l...)
	if infoText(room[len(room)-1]) != last {
		t.Error("the room behind the list's end was turned")
	}
	o := other(t, e)
	for i, x := range sample.Infos()[:len(l)] {
		if infoText(l[i]) != infoText(x) {
			t.Fatalf("%s was turned", x.Name)
		}
		for j := range l[i].Rules {
			l[i].Rules[j] = rule("turned", 7, srt(two))
		}
		l[i] = api.Info{}
	}
	holds(t, e, w)
	names := e.List()
	for i, s := range names {
		x, _ := e.Find(s)
		for j := range x.Rules {
			x.Rules[j] = rule("turned", 7, srt(two))
		}
		x.Name, x.Type, x.Params, x.Height = "turned", srt(two), 4, 99
		names[i] = "turned"
	}
	_ = append(names, "turned")
	holds(t, e, w)
	holds(t, o, w)
}

// What is handed in with room behind the ends of its lists leaves that as it is.
func TestRoomIsNotTurned(t *testing.T) {
	rules := []api.Rule{rule("N", 0, con("N")), rule("N", 1, con("N")), rule("behind", 2, srt(two))}
	room := []api.Info{axiom(0, "N", srt(zero)), {Kind: api.IsRec, Name: "r", Type: con("N"), Rules: rules[:2]}, axiom(0, "behind", srt(two))}
	e := New()
	if f := e.Add(room[:2]...); f != api.OK {
		t.Fatalf("error %d", f)
	}
	x, _ := e.Find("r")
	_ = append(x.Rules, rule("more", 3, srt(two)))
	if rules[2].Ctor != "behind" || room[2].Name != "behind" {
		t.Error("the room behind was turned")
	}
	y, _ := e.Find("r")
	if len(y.Rules) != 2 || y.Rules[1].Fields != 1 || &x.Rules[0] == &y.Rules[0] {
		t.Errorf("%d rules", len(y.Rules))
	}
}

// P7.3

func TestTypeAndValue(t *testing.T) {
	p := func(i, n int) api.Level { return sample.P(i, n) }
	n := con("N")
	e, _ := filled(t,
		axiom(0, "N", srt(zero)),
		axiom(1, "a", srt(p(0, 1))),
		axiom(4, "b", pi(srt(p(3, 0)), con("a", p(1, 0)))),
		def(2, "d", pi(srt(p(0, 0)), srt(p(1, 2))), lam(srt(p(1, 0)), con("b", p(0, 0), p(1, 1), zero, two))),
		theorem(1, "t", con("a", p(0, 0)), n),
	)
	for _, c := range []struct {
		of, ty, value api.Term
		e             api.Errno // of the value
	}{
		{n, srt(zero), api.Term{}, api.ErrNone},
		{con("a", two), srt(sample.Number(3)), api.Term{}, api.ErrNone},
		{con("a", p(3, 5)), srt(p(3, 6)), api.Term{}, api.ErrNone},
		{con("b", zero, two, zero, p(0, 0)), pi(srt(p(0, 0)), con("a", two)), api.Term{}, api.ErrNone},
		{con("d", p(1, 0), two), pi(srt(p(1, 0)), srt(sample.Number(4))), lam(srt(two), con("b", p(1, 0), sample.Number(3), zero, two)), api.OK},
		{con("t", two), con("a", two), api.Term{}, api.ErrNone},
	} {
		if x, f := e.Type(c.of); f != api.OK || text(x) != text(c.ty) {
			t.Errorf("Type of %s: error %d, %s", text(c.of), f, text(x))
		}
		if x, f := e.Value(c.of); f != c.e || text(x) != text(c.value) {
			t.Errorf("Value of %s: error %d, %s", text(c.of), f, text(x))
		}
	}
	for _, x := range []api.Term{con("N", zero), con("a"), con("a", zero, zero), con("b"), con("b", zero, zero, zero), con("d"), con("d", two), con("d", two, two, two), con("t"), con("t", two, two)} {
		if y, f := e.Type(x); f != api.ErrLevel || !zeroTerm(y) {
			t.Errorf("Type of %s: error %d", text(x), f)
		}
		if y, f := e.Value(x); f != api.ErrLevel || !zeroTerm(y) {
			t.Errorf("Value of %s: error %d", text(x), f)
		}
	}
}

// Levels that are too great when they are put in: the greatest that may be, and one more.
func TestTypeAndValueThatAreTooGreat(t *testing.T) {
	e, _ := filled(t, def(1, "d", srt(sample.P(0, 1)), srt(sample.P(0, 3))))
	for _, of := range []func(n int) api.Level{sample.Number, func(n int) api.Level { return sample.P(2, n) }} {
		for n, want := range map[int][2]api.Errno{api.TopLevel - 3: {}, api.TopLevel - 2: {0, api.ErrMany}, api.TopLevel - 1: {0, api.ErrMany}, api.TopLevel: {api.ErrMany, api.ErrMany}} {
			x, f := e.Type(con("d", of(n)))
			y, g := e.Value(con("d", of(n)))
			if f != want[0] || g != want[1] || zeroTerm(x) != (f != api.OK) || zeroTerm(y) != (g != api.OK) {
				t.Errorf("at %d: errors %d, %d", n, f, g)
			}
		}
	}
}

func TestTypeAndValueOfWhatIsNoConst(t *testing.T) {
	e, _ := filled(t, sample.Infos()...)
	for _, x := range append(sample.Bads(), srt(zero), vr(0), app(con("one"), con("a")), lam(con("N"), con("N")), pi(con("N"), con("N")), let(con("N"), con("N"), con("N")), prj("N", 0, con("N"))) {
		y, f := e.Type(x)
		z, g := e.Value(x)
		if f != api.ErrArg || g != api.ErrArg || !zeroTerm(y) || !zeroTerm(z) {
			t.Errorf("of the kind %d: errors %d, %d", x.K, f, g)
		}
	}
	for _, x := range []api.Term{ // Consts that may not be, of a name that is there
		{K: api.Const, S: "one", N: 1},
		{K: api.Const, S: "one", T: []api.Term{con("N")}},
		con("id", sample.BadLevels()[0]), con("id", sample.BadLevels()[2]),
		con("id", zero, zero, zero, zero, zero),
		con("one", make([]api.Level, 5)...),
	} {
		nothingOf(t, e, x, api.ErrArg)
	}
	for _, x := range []api.Term{con("none"), con("none", zero), con("none", zero, two, great, param)} {
		nothingOf(t, e, x, api.ErrNone)
	}
}

func TestHeight(t *testing.T) {
	n := con("N")
	e, _ := filled(t,
		axiom(0, "N", srt(zero)),
		def(0, "a", n, n),
		def(1, "b", n, con("a")),
		def(0, "c", n, con("b", zero)),
		theorem(0, "t", n, con("c")),
		def(0, "z", n, n), // the last one by its bytes, but not the highest one
	)
	for _, c := range []struct {
		t    api.Term
		want int
	}{
		{n, 0}, {srt(zero), 0}, {vr(3), 0}, {con("none"), 0}, {con("t"), 0},
		{con("a"), 1}, {con("b", zero), 2}, {con("b"), 2}, {con("c"), 3}, {con("c", two, two), 3}, // at whatever levels
		{app(con("a"), con("c")), 3}, {app(con("c"), con("a")), 3}, {app(con("none"), con("b")), 2},
		{app(con("c"), con("z")), 3}, {app(con("z"), con("b")), 2}, {app(con("t"), con("z")), 1},
		{lam(con("c"), vr(0)), 3}, {pi(n, con("b")), 2}, {let(con("a"), con("c"), con("b")), 3}, {let(n, n, con("a")), 1},
		{prj("b", 0, con("a")), 2}, {prj("none", 0, con("a")), 1}, {prj("N", 0, vr(5)), 0},
	} {
		if h := e.Height(c.t); h != c.want {
			t.Errorf("%s: %d, want %d", text(c.t), h, c.want)
		}
	}
	for i, b := range sample.Bads() {
		for _, x := range []api.Term{b, app(con("c"), b), app(b, con("c"))} {
			if h := e.Height(x); h != 0 {
				t.Errorf("the one %d, that may not be: %d", i, h)
			}
		}
	}
}
