package rules

import (
	"slices"
	"testing"

	"batten/api"
	"batten/env"
	"batten/sample"
	"batten/subst"
	"batten/term"
)

// P8.5, and what holds of all calls.

// closed over n levels, as env's words say it.
func closed(t api.Term, n int) bool {
	own := make([]api.Level, n)
	for i := range own {
		own[i] = sample.P(i, 0)
	}
	_, f := subst.Levels(t, own)
	return term.Free(t) == 0 && f == api.OK
}

// closedRows are names at levels of which none is above that of the number n - 1, applied to closed terms.
func closedRows(e *env.Env, n int) []api.Term {
	by := []api.Level{zero, two, sample.P(n-1, 3), sample.P(0, 0)}
	l := []api.Term{num(1), lam(con("N"), vr(0)), con("id", sample.P(n-1, 1)), con("p"), srt(sample.P(n-1, 0)), apply(con("Pair.mk", by[:2]...), args(4)...), con("f")}
	var out []api.Term
	for _, x := range wordsOf(e) {
		for i := range l {
			out = append(out, apply(con(x.Name, by[:x.Params]...), l[:i]...))
		}
	}
	return out
}

// What is told is closed over as many levels as what was handed in.
func TestWhatIsToldIsClosed(t *testing.T) {
	e := basis(t)
	for n := 1; n <= api.MaxParams; n++ {
		rows := closedRows(e, n)
		told := 0
		tells := func(x api.Term) {
			told++
			if !closed(x, n) {
				t.Errorf("not closed over %d: %s", n, text(x))
			}
		}
		for _, x := range rows {
			if !closed(x, n) {
				t.Fatalf("handed in: %s", text(x))
			}
			if got, f := Delta(e, x); f == api.OK {
				tells(got)
			}
			for i := range 4 {
				if got, is := Field(e, "Pair", i, x); is {
					tells(got)
				}
			}
			for _, y := range rows {
				if got, f := Iota(e, x, y); f == api.OK {
					tells(got)
				}
			}
		}
		if told < 50 {
			t.Errorf("only %d told", told)
		}
	}
	if c, is := Record(e, "Pair"); !is || !closed(c.Type, c.Params) {
		t.Errorf("%v, %s", is, infoText(c))
	}
}

// Free variables of arguments stay what they are: no more come, and none is turned.
func TestFreeVariablesStay(t *testing.T) {
	e := basis(t)
	for k := range 5 {
		d, _ := Delta(e, app(con("double"), vr(k)))
		i, _ := Iota(e, apply(con("N.rec", zero), con("a"), con("a"), con("a"), vr(9), con("a")), app(con("N.succ"), vr(k)))
		f, _ := Field(e, "Pair", 0, apply(con("Pair.mk"), vr(8), vr(9), vr(k), vr(7)))
		for _, x := range []api.Term{d, i, f} {
			if term.Free(x) != k+1 || !term.Has(x, k) {
				t.Errorf("%s: the variable %d", text(x), k)
			}
		}
	}
}

// Nothing that is handed in is turned, the environment neither, and the same comes again. (R3, R5)
func TestNothingIsTurned(t *testing.T) {
	e := basis(t)
	rows := closedRows(e, 2)
	for _, y := range []api.Term{num(0), num(2), app(con("List.nil", zero), con("N")), apply(con("List.cons", two), con("N"), vr(1), vr(2)), apply(con("Pair.mk", zero, two), vr(0), vr(1), vr(2), num(3))} {
		for _, x := range append(slices.Clone(rows), y) {
			var marks []func() bool
			x, y := sample.Rooms(x, &marks), sample.Rooms(y, &marks)
			wasX, wasY := text(x), text(y)
			var before string
			for i := range 2 {
				d, f := Delta(e, x)
				u, g := Iota(e, x, y)
				at, is := Major(e, x)
				v, has := Field(e, "Pair", 1, y)
				now := text(api.Term{K: uint8(f), N: at, T: []api.Term{d, {K: uint8(g)}, u, v}})
				if i > 0 && (now != before || is != (at > 0) || has != (v.K != 0)) {
					t.Fatalf("%s and %s: %s, then %s", wasX, wasY, before, now)
				}
				before = now
			}
			if text(x) != wasX || text(y) != wasY || slices.ContainsFunc(marks, func(kept func() bool) bool { return !kept() }) {
				t.Fatalf("turned: %s, %s", wasX, wasY)
			}
		}
	}
	var was []string
	for _, x := range wordsOf(basis(t)) {
		was = append(was, infoText(x))
	}
	for i, x := range wordsOf(e) {
		if infoText(x) != was[i] {
			t.Errorf("%s was turned", x.Name)
		}
	}
}

// All calls are as the words say, of the sample's names at any number of levels, of any number of arguments.
func TestTheWordsOfTheSample(t *testing.T) {
	e := basis(t)
	heads := []api.Term{vr(0), srt(zero), con("none"), lam(vr(0), vr(0)), prj("N.rec", 0, vr(0)), prj("Pair", 1, con("p"))}
	var names []string
	for _, x := range wordsOf(e) {
		names = append(names, x.Name)
		for n := range 5 {
			heads = append(heads, con(x.Name, []api.Level{zero, two, zero, two}[:n]...))
		}
	}
	var terms, majors []api.Term
	for i, h := range heads {
		for n := range 7 {
			terms = append(terms, apply(h, args(n)...))
			if i%3 == 0 || h.S == "Pair.mk" || len(h.Ls) == 0 {
				majors = append(majors, apply(h, args(n)...))
			}
		}
	}
	holds(t, e, terms, majors, append(names, "none", ""))
}

// Small terms of all kinds, as what is asked of and as the major one.
func TestTheWordsOfSmallTerms(t *testing.T) {
	e := filled(t,
		typ("P", true), typ("A", true), ctorOf("B.b'", "P", 0, 1), def(1, "B", srt(zero), srt(sample.P(0, 1))),
		api.Info{Kind: api.IsRec, Name: sample.Name32, Type: srt(zero), Params: 4, Rules: []api.Rule{rule("B.b'", 1, con("A")), rule("B.b'", 0, con("A"))}},
	)
	some := sample.Some(40)
	majors := append(sample.Leaves(), app(con("B.b'"), vr(1)), apply(con("B.b'"), vr(1), vr(0)))
	for _, l := range [][]api.Term{sample.Leaves(), some} {
		for _, x := range l {
			some = append(some, app(sample.Leaves()[12], x), app(con("B", two), x), app(con("B.b'"), x))
		}
	}
	holds(t, e, append(some, sample.Leaves()...), majors, []string{"P", "A", "B", "B.b'", "none"})
}

// grown: infos, and terms whose heads are theirs, that the bytes tell.
type grown struct{ sample.Bytes }

func (g *grown) name() string { return []string{"A", "B", "c", "d", "e", "f"}[g.Next(6)] }

func (g *grown) closed(params int) api.Term {
	l := zero
	if params > 0 {
		l = sample.P(g.Next(params), g.Next(3))
	}
	return []api.Term{con("n", l), srt(l), con("n"), lam(srt(zero), vr(0)), pi(srt(l), vr(0))}[g.Next(5)]
}

// info of the i-th name: for the most part types are A and B, constructors c and d, recursors e and f.
func (g *grown) info(i int) api.Info {
	kinds := []uint8{api.IsType, api.IsDef, api.IsCtor, api.IsCtor, api.IsRec, api.IsRec}
	x := api.Info{Kind: kinds[i], Name: "ABcdef"[i : i+1], Params: g.Next(3), Of: "AB"[g.Next(2):][:1], Record: g.Next(3) > 0}
	if g.Next(8) == 7 {
		x.Kind, x.Of = kinds[g.Next(6)], g.name()
	}
	for _, n := range []*int{&x.Fixed, &x.Index, &x.Fields, &x.Motives, &x.Minors} {
		*n = g.Next(3)
	}
	x.Type, x.Value = g.closed(x.Params), g.closed(x.Params)
	for range g.Next(4) {
		x.Rules = append(x.Rules, rule([]string{"c", "d", "c", "d", g.name()}[g.Next(5)], g.Next(3), g.closed(x.Params)))
	}
	return x
}

// row: a head, for the most part a Const of one of the names, applied to fewer than so many terms.
func (g *grown) row(args int) api.Term {
	h := con(g.name())
	for range g.Next(3) {
		h.Ls = append(h.Ls, []api.Level{zero, two, sample.P(0, 1), sample.Number(api.TopLevel - 1)}[g.Next(4)])
	}
	any := func() api.Term {
		n := g.Next(20)
		return sample.Grown(g.B[:min(len(g.B), n)])
	}
	switch g.Next(20) {
	case 0:
		h = prj(g.name(), g.Next(4), h)
	case 1:
		h = any()
	}
	for range g.Next(args) {
		a := []api.Term{vr(g.Next(5)), srt(sample.Number(g.Next(9))), num(g.Next(3)), con(g.name())}[g.Next(4)]
		if g.Next(20) == 19 {
			a = any()
		}
		h = app(h, a)
	}
	return h
}

// FuzzRules: any infos that may be added, and any terms, held against the words. (R1)
func FuzzRules(f *testing.F) {
	for k := range byte(24) {
		b := make([]byte, 100)
		for i := range b {
			b[i] = byte(i*i)*k + byte(i/3)
		}
		f.Add(b, b[k:], b[2*k:])
	}
	f.Fuzz(func(t *testing.T, b, c, d []byte) {
		e, g := filled(t, axiom(0, "n", srt(zero))), &grown{sample.Bytes{B: b}}
		for i := range 6 {
			if f := e.Add(g.info(i)); f != api.OK {
				t.Fatalf("error %d", f)
			}
		}
		asked, majors := &grown{sample.Bytes{B: c}}, &grown{sample.Bytes{B: d}}
		var l, m []api.Term
		for range 8 {
			l, m = append(l, asked.row(12)), append(m, majors.row(6))
		}
		holds(t, e, l, m, []string{"A", "B", "c", "d", "none"})
	})
}
