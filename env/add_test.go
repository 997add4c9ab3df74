package env

import (
	"math"
	"slices"
	"strconv"
	"testing"

	"batten/api"
	"batten/sample"
)

// P7.1

func TestNewIsOfNone(t *testing.T) {
	e := New()
	if e == nil {
		t.Fatal("no environment")
	}
	holds(t, e, &words{})
	if f := e.Add(axiom(0, "A", srt(zero))); f != api.OK {
		t.Fatalf("error %d", f)
	}
	holds(t, New(), &words{})
}

func TestAddOfTheChapter(t *testing.T) {
	e, w := New(), &words{}
	a := axiom(0, "A", srt(zero))
	adds(t, e, w, api.OK, a)
	adds(t, e, w, api.ErrName, a)
	adds(t, e, w, api.ErrNone, axiom(0, "C", con("B")))
}

func TestAddOfNone(t *testing.T) {
	e, w := New(), &words{}
	adds(t, e, w, api.OK)
	adds(t, e, w, api.OK, sample.NumberInfos()...)
	adds(t, e, w, api.OK)
	adds(t, e, w, api.OK, []api.Info{}...)
}

func TestAddAtOnceAndOneByOne(t *testing.T) {
	e, w := New(), &words{}
	adds(t, e, w, api.OK, sample.Infos()...)
	e, w = New(), &words{}
	for i, x := range sample.Infos() {
		if i < 4 {
			continue
		}
		if i == 4 {
			adds(t, e, w, api.OK, sample.NumberInfos()...)
		}
		if f, g := e.Add(x), w.add(x); f != api.OK || g != api.OK {
			t.Fatalf("%s: error %d, %d", x.Name, f, g)
		}
	}
	holds(t, e, w)
}

// many axioms, of names that are in no other list.
func many(n int, ahead string) []api.Info {
	l := make([]api.Info, n)
	for i := range l {
		l[i] = axiom(0, ahead+strconv.Itoa(i), srt(zero))
	}
	return l
}

const most = 16 * api.MaxDecls

func TestAddOfTheMost(t *testing.T) {
	for _, ahead := range []int{0, 1, most / 2, most - 1, most} {
		e, w := filled(t, many(ahead, "a")...)
		rest := many(most-ahead, "b")
		for _, l := range [][]api.Info{
			many(most-ahead+1, "b"),
			append(slices.Clone(rest), api.Info{}),
			append(slices.Clone(rest), axiom(0, "a0", con("none"))),
			many(most+1, "a"),
		} {
			if f := e.Add(l...); f != api.ErrMany {
				t.Fatalf("%d behind %d: error %d", len(l), ahead, f)
			}
			if o, f := e.With(l...); f != api.ErrMany || o != nil {
				t.Fatalf("%d behind %d, With: error %d", len(l), ahead, f)
			}
		}
		holds(t, e, w)
		o, f := e.With(rest...)
		if f != api.OK || len(o.List()) != most {
			t.Fatalf("%d behind %d, With: error %d", len(rest), ahead, f)
		}
		if f, g := e.Add(rest...), w.add(rest...); f != api.OK || g != api.OK {
			t.Fatalf("%d behind %d: error %d, %d", len(rest), ahead, f, g)
		}
		holds(t, e, w)
		for _, full := range []*Env{e, o} {
			if f := full.Add(axiom(0, "one.more", srt(zero))); f != api.ErrMany {
				t.Fatalf("one more: error %d", f)
			}
			if f := full.Add(); f != api.OK || len(full.List()) != most {
				t.Fatalf("none more: error %d", f)
			}
		}
	}
}

func TestAddOfNames(t *testing.T) {
	e, w := basis(t)
	for _, s := range []string{"", sample.Name33, "a-b", "a b", "\x00", "n\u00e4me", "b\n", string(make([]byte, 1<<20))} {
		adds(t, e, w, api.ErrName, axiom(0, s, srt(zero)))
		adds(t, e, w, api.ErrName, axiom(0, "b", srt(zero)), axiom(0, s, srt(zero)))
	}
	for _, x := range w.l { // there
		adds(t, e, w, api.ErrName, x)
		adds(t, e, w, api.ErrName, axiom(0, "b", srt(zero)), axiom(0, x.Name, srt(zero)))
	}
	b, c := axiom(0, "b", srt(zero)), axiom(0, "c", srt(zero))
	adds(t, e, w, api.ErrName, b, b)
	adds(t, e, w, api.ErrName, b, c, b)
	adds(t, e, w, api.ErrName, b, c, def(1, "c", srt(two), srt(zero)))
	adds(t, e, w, api.OK, b, c, axiom(0, "B", srt(zero)), axiom(0, sample.Name32, srt(zero)), axiom(0, sample.Name32[:31], srt(zero)))
	adds(t, e, w, api.ErrName, b)
}

// numbersOf: where the numbers stand that an info tells of how much it has.
func numbersOf(x *api.Info) []*int {
	l := []*int{&x.Fixed, &x.Index, &x.No, &x.Fields, &x.Motives, &x.Minors, &x.Ctors}
	for i := range x.Rules {
		l = append(l, &x.Rules[i].Fields)
	}
	return l
}

func TestAddOfNumbers(t *testing.T) {
	e, w := basis(t)
	serial := 0
	for kind := range uint8(8) {
		x := api.Info{Kind: kind, Type: srt(zero), Value: con("N"), Rules: []api.Rule{rule("N", 0, con("N")), rule("", 0, con("a")), rule("N", 0, con("N"))}}
		for i := range numbersOf(&x) {
			for _, n := range []int{0, 1, 999, 1000, 1001, -1, math.MinInt, math.MaxInt, 1 << 32} {
				y := cloneInfo(x)
				serial++
				y.Name = "x" + strconv.Itoa(serial)
				*numbersOf(&y)[i] = n
				want := api.OK
				if kind == 0 || kind == 7 || n < 0 || n > 1000 {
					want = api.ErrArg
				}
				if f := e.Add(y); f != want {
					t.Fatalf("of the kind %d, %d at %d: error %d, want %d", kind, n, i, f, want)
				}
				if f := w.add(y); f != want {
					t.Fatalf("the words say %d", f)
				}
			}
		}
	}
	holds(t, e, w)
	for _, k := range []uint8{0, 7, 8, 128, 255} {
		adds(t, e, w, api.ErrArg, api.Info{Kind: k, Name: "k", Type: srt(zero), Value: srt(zero)})
	}
	adds(t, e, w, api.ErrArg, api.Info{Name: "k"})
}

func TestAddOfParams(t *testing.T) {
	e, w := basis(t)
	for kind := api.IsAxiom; kind <= api.IsRec; kind++ {
		for i, n := range []int{-1, 0, 1, 2, 3, 4, 5, math.MinInt, math.MaxInt} {
			want := api.OK
			if n < 0 || n > api.MaxParams {
				want = api.ErrLevel
			}
			adds(t, e, w, want, api.Info{Kind: kind, Name: "x" + strconv.Itoa(int(kind)) + "." + strconv.Itoa(i), Params: n, Type: srt(zero), Value: con("N")})
		}
	}
}

// places are where a term of an info stands: what an info is with it there.
func places() map[string]func(x api.Term) api.Info {
	n := con("N")
	return map[string]func(x api.Term) api.Info{
		"an axiom's type":       func(x api.Term) api.Info { return axiom(0, "x", x) },
		"a type's type":         func(x api.Term) api.Info { return api.Info{Kind: api.IsType, Name: "x", Type: x} },
		"a constructor's type":  func(x api.Term) api.Info { return api.Info{Kind: api.IsCtor, Name: "x", Type: x} },
		"a recursor's type":     func(x api.Term) api.Info { return api.Info{Kind: api.IsRec, Name: "x", Type: x} },
		"a definition's type":   func(x api.Term) api.Info { return def(0, "x", x, n) },
		"a definition's value":  func(x api.Term) api.Info { return def(0, "x", n, x) },
		"a theorem's type":      func(x api.Term) api.Info { return theorem(0, "x", x, n) },
		"a theorem's value":     func(x api.Term) api.Info { return theorem(0, "x", n, x) },
		"a recursor's one rule": func(x api.Term) api.Info { return ruled(api.IsRec, x) },
		"a recursor's rule":     func(x api.Term) api.Info { return ruled(api.IsRec, n, x, n) },
		"an axiom's last rule":  func(x api.Term) api.Info { return ruled(api.IsAxiom, n, n, x) },
		"a definition's rule":   func(x api.Term) api.Info { return ruled(api.IsDef, x, n) },
		"a theorem's rule":      func(x api.Term) api.Info { return ruled(api.IsTheorem, n, x) },
	}
}

// ruled: an info of that kind with rules of these bodies.
func ruled(kind uint8, l ...api.Term) api.Info {
	x := api.Info{Kind: kind, Name: "x", Type: con("N"), Value: con("N")}
	for _, b := range l {
		x.Rules = append(x.Rules, rule("", 0, b))
	}
	return x
}

// open terms, that may be.
func openTerms() []api.Term {
	n := con("N")
	return []api.Term{
		vr(0), vr(1), vr(sample.Far), app(n, vr(0)), app(vr(0), n), prj("N", 0, vr(0)),
		lam(n, vr(1)), lam(vr(0), n), pi(n, vr(1)), pi(vr(0), vr(0)), lam(n, lam(n, vr(2))),
		let(n, n, vr(1)), let(n, vr(0), n), let(vr(0), n, n), lam(n, app(vr(0), vr(1))), app(lam(n, vr(0)), vr(0)),
	}
}

func TestAddOfTermsThatMayNot(t *testing.T) {
	e, w := basis(t)
	for what, with := range places() {
		for i, b := range append(sample.Bads(), openTerms()...) {
			if f := e.Add(with(b)); f != api.ErrVar {
				t.Fatalf("as %s, the one %d: error %d", what, i, f)
			}
		}
	}
	holds(t, e, w)
	for what, with := range places() {
		for i, x := range []api.Term{lam(con("N"), vr(0)), pi(con("N"), pi(vr(0), app(vr(1), vr(0)))), let(con("N"), con("a"), vr(0)), lam(con("N"), let(vr(0), vr(0), vr(1)))} {
			y := with(x)
			y.Name = "x" + strconv.Itoa(len(w.l))
			if f, g := e.Add(y), w.add(y); f != api.OK || g != api.OK {
				t.Fatalf("as %s, the one %d: error %d, %d", what, i, f, g)
			}
		}
	}
	holds(t, e, w)
}

// Each parameter, in each way in which a term may have it, with all Params.
func TestAddOfParameters(t *testing.T) {
	e, w := basis(t)
	ways := []func(l api.Level) api.Term{
		srt,
		func(l api.Level) api.Term { return con("N", l) },
		func(l api.Level) api.Term { return con("N", zero, two, l) },
		func(l api.Level) api.Term { return con("N", l, l, zero, zero) },
		func(l api.Level) api.Term { return lam(con("N"), let(vr(0), prj("N", 2, srt(l)), vr(0))) },
		func(l api.Level) api.Term { return app(srt(zero), srt(l)) },
	}
	for what, with := range places() {
		for n := range api.MaxParams + 1 {
			for i := range api.MaxParams {
				for _, l := range []api.Level{sample.P(i, 0), sample.P(i, 3), sample.P(i, api.TopLevel), {C: 5, P: sample.P(i, 4).P}} {
					for k, way := range ways {
						x := with(way(l))
						x.Params, x.Name = n, "x"+strconv.Itoa(len(w.l))
						want := api.OK
						if i >= n {
							want = api.ErrLevel
						}
						f := api.OK
						if k == 0 && l == sample.P(i, 0) || i >= n {
							f = e.Add(x)
							if f == api.OK {
								w.l = append(w.l, x)
							}
						} else {
							_, f = e.With(x)
						}
						if f != want {
							t.Fatalf("as %s, %s with Params %d: error %d", what, text(way(l)), n, f)
						}
					}
				}
			}
		}
	}
	if l := e.List(); len(l) != len(w.l) {
		t.Errorf("%d infos, want %d", len(l), len(w.l))
	}
}

// Names of what is nowhere, there, ahead, behind, and of the info itself.
func TestAddOfWhatIsNamed(t *testing.T) {
	e, w := basis(t)
	ahead, behind := axiom(0, "ahead", srt(zero)), axiom(0, "behind", srt(zero))
	for what, with := range places() {
		for _, way := range []func(s string) api.Term{
			func(s string) api.Term { return con(s) },
			func(s string) api.Term { return con(s, two, zero) }, // as many levels as may be
			func(s string) api.Term { return prj(s, 11, con("a")) },
			func(s string) api.Term { return lam(con("N"), app(con("a"), let(con("N"), con(s), con("t")))) },
		} {
			kind := with(con("N")).Kind
			defined := kind == api.IsDef || kind == api.IsTheorem
			for s, is := range map[string]bool{"none": false, "n": false, "N.": false, "N": true, "N.rec": true, "t": true, "ahead": true, "behind": !defined, "x": !defined} {
				want := api.OK
				if !is {
					want = api.ErrNone
				}
				o := other(t, e)
				if f := o.Add(ahead, with(way(s)), behind); f != want {
					t.Fatalf("as %s, %s: error %d, want %d", what, text(way(s)), f, want)
				}
				v := w.clone()
				if f := v.add(ahead, with(way(s)), behind); f != want {
					t.Fatalf("as %s, %s: the words say %d", what, text(way(s)), f)
				}
				holds(t, o, v)
			}
		}
	}
	holds(t, e, w)
}

func other(t *testing.T, e *Env) *Env {
	t.Helper()
	o, f := e.With()
	if f != api.OK || o == nil || o == e {
		t.Fatalf("With of none: error %d", f)
	}
	return o
}

// What is no definition or theorem may name all of what is added, round about, too.
func TestAddOfWhatNamesOneAnother(t *testing.T) {
	e, w := basis(t)
	adds(t, e, w, api.OK, axiom(0, "b", con("c")), axiom(0, "c", con("d")), axiom(0, "d", con("b")), axiom(0, "e", con("e")))
	adds(t, e, w, api.OK, axiom(0, "g", con("h")), def(0, "h", con("g"), con("g")))
	adds(t, e, w, api.ErrNone, def(0, "i", con("N"), con("j")), axiom(0, "j", con("i")))
	adds(t, e, w, api.ErrNone, def(0, "i", con("N"), con("j")), theorem(0, "j", con("N"), con("N")))
	adds(t, e, w, api.ErrNone, axiom(0, "i", con("j")), axiom(0, "j", con("k")))
}

func TestAddOfHeights(t *testing.T) {
	e, w := New(), &words{}
	n := axiom(0, "N", srt(zero))
	none := def(0, "none", srt(two), srt(zero))
	adds(t, e, w, api.OK, n, none, def(0, "one", con("N"), con("N")))
	heights := func(want map[string]int) {
		t.Helper()
		for s, h := range want {
			if x, is := e.Find(s); x.Height != h || !is {
				t.Errorf("%s: Height %d, want %d", s, x.Height, h)
			}
		}
	}
	heights(map[string]int{"N": 0, "none": 1, "one": 1})
	adds(t, e, w, api.OK,
		def(0, "two", con("N"), con("one")),
		def(0, "three", con("N"), app(con("none"), app(con("two"), con("one")))),
		def(0, "four", con("N"), lam(con("three"), con("one"))),
		theorem(0, "t", con("four"), con("four")),
		def(0, "overt", con("N"), con("t")),
		axiom(0, "a", con("four")),
		def(0, "overa", con("N"), con("a")),
		def(0, "typed", con("four"), con("N")),
		def(0, "projected", con("N"), prj("four", 0, con("N"))),
		api.Info{Kind: api.IsRec, Name: "r", Type: con("four"), Value: con("four"), Rules: []api.Rule{rule("N", 0, con("four"))}},
		api.Info{Kind: api.IsDef, Name: "ruled", Type: con("N"), Value: con("r"), Rules: []api.Rule{rule("N", 0, con("four"))}},
		def(0, "twice", con("N"), app(con("four"), con("four"))),
		def(0, "last", con("N"), app(con("four"), con("none"))))
	heights(map[string]int{"two": 2, "three": 3, "four": 4, "t": 0, "overt": 1, "a": 0, "overa": 1, "typed": 1, "projected": 5, "r": 0, "ruled": 1, "twice": 5, "last": 5})
	for kind := api.IsAxiom; kind <= api.IsRec; kind++ { // what is handed in as Height says nothing
		for i, h := range []int{7, -1, math.MaxInt, math.MinInt} {
			adds(t, e, w, api.OK, api.Info{Kind: kind, Name: "h" + strconv.Itoa(int(kind)) + "." + strconv.Itoa(i), Type: con("N"), Value: con("four"), Height: h})
		}
	}
	heights(map[string]int{"h1.0": 0, "h2.0": 5, "h2.1": 5, "h2.2": 5, "h2.3": 5, "h3.2": 0, "h6.3": 0})
}

// A row of definitions, each over the one ahead.
func TestAddOfARow(t *testing.T) {
	e := New()
	l := []api.Info{def(0, "d0", srt(zero), srt(zero))}
	for i := 1; i < most; i++ {
		l = append(l, def(0, "d"+strconv.Itoa(i), con("d0"), con("d"+strconv.Itoa(i-1))))
	}
	if f := e.Add(l...); f != api.OK {
		t.Fatalf("error %d", f)
	}
	for i := range l {
		if x, is := e.Find(l[i].Name); !is || x.Height != i+1 {
			t.Fatalf("%s: Height %d", l[i].Name, x.Height)
		}
	}
	if h := e.Height(con("d4095")); h != most {
		t.Errorf("Height %d", h)
	}
}

// Of what has no Value by its kind that is not looked at, and not kept.
func TestAddOfValuesOfOthers(t *testing.T) {
	e, w := basis(t)
	for i, b := range append(sample.Bads(), vr(0), srt(great), con("none"), con("x"), srt(zero)) {
		for _, kind := range []uint8{api.IsAxiom, api.IsType, api.IsCtor, api.IsRec} {
			s := "x" + strconv.Itoa(i) + "." + strconv.Itoa(int(kind))
			x := api.Info{Kind: kind, Name: s, Type: con("N"), Value: b}
			if f := e.Add(x); f != api.OK {
				t.Fatalf("of the kind %d, the one %d: error %d", kind, i, f)
			}
			x.Value = api.Term{}
			if got, is := e.Find(s); !is || infoText(got) != infoText(x) {
				t.Fatalf("of the kind %d, the one %d: not kept as it must be", kind, i)
			}
			nothing, f := e.Value(con(s))
			if f != api.ErrNone || !zeroTerm(nothing) {
				t.Fatalf("of the kind %d, the one %d: Value: error %d", kind, i, f)
			}
		}
	}
	if n := len(e.List()); n != len(w.l)+4*(len(sample.Bads())+5) {
		t.Errorf("%d infos", n)
	}
}

// Names and texts that an info tells, other than its own, may be any, and are kept.
func TestAddOfTextsOfOthers(t *testing.T) {
	e, w := basis(t)
	for i, s := range []string{"", "N", "none", sample.Name33, "a b\x00", "x"} {
		x := api.Info{Kind: uint8(i + 1), Name: "x" + strconv.Itoa(i), Type: con("N"), Value: con("N"), Block: s, Of: s + s, Record: i%2 == 0, Rules: []api.Rule{rule(s, i, con("N")), rule(s, 7, con("a"))}}
		adds(t, e, w, api.OK, x)
	}
}
