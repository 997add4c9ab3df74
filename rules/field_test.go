package rules

import (
	"math"
	"slices"
	"testing"

	"batten/api"
	"batten/env"
	"batten/sample"
)

// P8.4

func isField(t *testing.T, e *env.Env, s string, n int, x, want api.Term) {
	t.Helper()
	if got, is := Field(e, s, n, x); !is || text(got) != text(want) {
		t.Errorf("Field %d of %q: %v, %s, want %s", n, s, is, text(got), text(want))
	}
}

func noField(t *testing.T, e *env.Env, s string, n int, x api.Term) {
	t.Helper()
	if got, is := Field(e, s, n, x); is || !zeroTerm(got) {
		t.Errorf("Field %d of %q: %v, %s", n, s, is, text(got))
	}
}

func noRecord(t *testing.T, e *env.Env, s string) {
	t.Helper()
	if x, is := Record(e, s); is || infoText(x) != infoText(api.Info{}) {
		t.Errorf("Record of %q: %v, %s", s, is, infoText(x))
	}
}

// outside are numbers that no field has, of so many.
func outside(fields int) []int {
	return []int{-1, -2, fields, fields + 1, 1000, math.MaxInt, math.MinInt, math.MaxInt - 1}
}

func typ(name string, record bool) api.Info {
	return api.Info{Kind: api.IsType, Name: name, Type: srt(zero), Record: record}
}

func ctorOf(name, of string, fixed, fields int) api.Info {
	return api.Info{Kind: api.IsCtor, Name: name, Type: srt(zero), Of: of, Fixed: fixed, Fields: fields}
}

func TestFieldOfTheSample(t *testing.T) {
	e := basis(t)
	n, mk := con("N"), con("Pair.mk", zero, zero)
	x := apply(mk, n, con("a"), num(1), vr(3))
	isField(t, e, "Pair", 0, x, num(1))
	isField(t, e, "Pair", 1, x, vr(3))
	isField(t, e, "Pair", 1, apply(mk, n, n, num(1), x), x)
	for _, ls := range [][]api.Level{nil, {two}, {two, zero, two}} { // at whatever levels
		isField(t, e, "Pair", 0, apply(con("Pair.mk", ls...), n, n, num(1), num(2)), num(1))
	}
	for _, i := range outside(2) {
		noField(t, e, "Pair", i, x)
	}
	for i := range 6 {
		if i != 4 { // too few, and too many
			noField(t, e, "Pair", 0, apply(mk, args(i)...))
			noField(t, e, "Pair", 1, apply(mk, args(i)...))
		}
	}
	for _, s := range []string{"", "Pair.mk", "Pair.rec", "N", "N.succ", "List", "List.cons", "a", "p", "one", "none", "pair", "Pair.", sample.Name33, "a b"} {
		for i := range 2 {
			noField(t, e, s, i, x)
			noField(t, e, s, i, app(con("N.succ"), num(1)))
			noField(t, e, s, i, apply(con("List.cons", zero), n, num(1), vr(0)))
		}
	}
	for _, y := range []api.Term{
		con("p"), vr(0), srt(zero), lam(n, x), pi(x, x), let(n, n, x), prj("Pair", 0, x), prj("Pair.mk", 0, x),
		apply(vr(0), args(4)...), apply(con("none"), args(4)...), apply(con("a"), args(4)...), apply(con("Pair", zero, zero), args(4)...),
		apply(con("Pair.rec", zero, zero, zero), args(4)...), apply(prj("Pair.mk", 0, con("p")), args(4)...), apply(lam(n, mk), args(4)...),
		apply(con("List.cons", zero), args(3)...), apply(con("List.cons", zero), args(4)...), app(con("N.succ"), num(1)),
	} {
		noField(t, e, "Pair", 0, y)
		noField(t, e, "Pair", 1, y)
	}
}

func TestFieldOfNumbers(t *testing.T) {
	for _, fixed := range []int{0, 1, 3, 1000} {
		for _, fields := range []int{0, 1, 5, 1000} {
			e := filled(t, typ("S", true), ctorOf("c", "S", fixed, fields))
			l := args(fixed + fields + 1)
			x := apply(con("c"), l[:fixed+fields]...)
			for _, i := range []int{0, 1, fields / 2, fields - 2, fields - 1} {
				if i >= 0 && i < fields {
					isField(t, e, "S", i, x, l[fixed+i])
				}
				noField(t, e, "S", i, apply(con("c"), l...))
				noField(t, e, "S", i, apply(con("c"), l[:max(fixed+fields-1, 0)]...))
			}
			for _, i := range outside(fields) {
				noField(t, e, "S", i, x)
			}
		}
	}
}

// Of several structures, and of a structure with several constructors, each is told from what it is itself made of.
func TestFieldOfSeveral(t *testing.T) {
	e := filled(t,
		typ("S", true), typ("T", true), typ("U", false), typ("V", true),
		ctorOf("s", "S", 1, 2), ctorOf("t", "T", 1, 2), ctorOf("u", "U", 1, 2), ctorOf("s2", "S", 0, 3), ctorOf("w", "W", 1, 2),
		api.Info{Kind: api.IsRec, Name: "r", Type: srt(zero), Of: "V", Fixed: 1, Fields: 2},
		api.Info{Kind: api.IsDef, Name: "D", Type: srt(zero), Value: srt(zero), Record: true},
		ctorOf("d", "D", 1, 2),
	)
	l := args(3)
	for s, c := range map[string]string{"S": "s", "T": "t", "U": "u", "V": "r", "W": "w", "D": "d"} {
		for _, of := range []string{"S", "T", "U", "V", "W", "D"} {
			if of == s && (s == "S" || s == "T") {
				isField(t, e, of, 1, apply(con(c), l...), l[2])
			} else {
				noField(t, e, of, 1, apply(con(c), l...))
			}
		}
	}
	isField(t, e, "S", 2, apply(con("s2"), l...), l[2])
	isField(t, e, "S", 0, apply(con("s2"), l...), l[0])
	noField(t, e, "S", 2, apply(con("s"), l...))
}

func TestFieldOfWhatMayNotBe(t *testing.T) {
	e := basis(t)
	mk, l := con("Pair.mk", zero, zero), args(4)
	for _, b := range sample.Bads() {
		noField(t, e, "Pair", 0, b)
		for i := range l {
			with := slices.Clone(l)
			with[i] = b
			noField(t, e, "Pair", 0, apply(mk, with...))
			noField(t, e, "Pair", 1, apply(mk, with...))
		}
	}
	for _, c := range []api.Term{{K: api.Const, S: "Pair.mk", N: 1}, con("Pair.mk", sample.BadLevels()[1]), con("Pair.mk", make([]api.Level, 5)...)} {
		noField(t, e, "Pair", 0, apply(c, l...))
	}
	noField(t, nil, "Pair", 0, apply(mk, l...))
	noField(t, nil, "", -1, api.Term{})
	noField(t, env.New(), "Pair", 0, apply(mk, l...))
}

func TestRecordOfTheSample(t *testing.T) {
	e := basis(t)
	want, _ := e.Find("Pair.mk")
	if x, is := Record(e, "Pair"); !is || infoText(x) != infoText(want) || x.Name != "Pair.mk" || x.Fixed != 2 || x.Fields != 2 {
		t.Errorf("%v, %s", is, infoText(x))
	}
	for _, s := range []string{"", "Pair.mk", "Pair.rec", "N", "N.zero", "N.rec", "List", "List.nil", "a", "one", "swap", "none", "pair", "Pair.", sample.Name33, "\x00"} {
		noRecord(t, e, s)
	}
	noRecord(t, nil, "Pair")
	noRecord(t, nil, "")
	noRecord(t, env.New(), "Pair")
	noRecord(t, &env.Env{}, "")
}

// The first one in the environment's order counts, wherever the type stands, whatever else there is of it.
func TestRecordOfSeveral(t *testing.T) {
	of := func(kind uint8, name, of string) api.Info {
		return api.Info{Kind: kind, Name: name, Type: srt(zero), Value: srt(zero), Of: of, Fixed: 3}
	}
	e := filled(t,
		of(api.IsRec, "S.rec", "S"), of(api.IsAxiom, "S.a", "S"), of(api.IsType, "S.t", "S"),
		ctorOf("z", "S", 1, 2), typ("S", true), ctorOf("a", "S", 0, 3), typ("T", true),
		of(api.IsDef, "T.rec", "T"), of(api.IsTheorem, "T.t", "T"), ctorOf("none", "", 0, 1),
	)
	noRecord(t, e, "T") // a structure without a constructor
	if x, is := Record(e, "S"); !is || x.Name != "z" {
		t.Errorf("of S: %v, %s", is, infoText(x))
	}
	e.Add(ctorOf("y", "T", 1, 1))
	e.Add(ctorOf("b", "T", 2, 2))
	if x, is := Record(e, "T"); !is || x.Name != "y" || x.Fields != 1 {
		t.Errorf("of T: %v, %s", is, infoText(x))
	}
	for kind := api.IsAxiom; kind <= api.IsRec; kind++ { // only a type is a structure
		x := of(kind, "X", "")
		x.Record = true
		e := filled(t, x, ctorOf("c", "X", 0, 1))
		if c, is := Record(e, "X"); is != (kind == api.IsType) || is && c.Name != "c" {
			t.Errorf("of the kind %d: %v", kind, is)
		}
		if _, is := Field(e, "X", 0, app(con("c"), vr(0))); is != (kind == api.IsType) {
			t.Errorf("of the kind %d, a field: %v", kind, is)
		}
	}
	no := filled(t, typ("X", false), ctorOf("c", "X", 0, 1))
	noRecord(t, no, "X")
	noField(t, no, "X", 0, app(con("c"), vr(0)))
}

// What Record tells and is turned then says nothing to the environment. (R3)
func TestRecordIsNewMemory(t *testing.T) {
	c := ctorOf("c", "S", 0, 1)
	c.Rules = []api.Rule{rule("c", 1, srt(zero))}
	e := filled(t, typ("S", true), c)
	x, _ := Record(e, "S")
	was := infoText(x)
	x.Rules[0] = rule("turned", 7, srt(two))
	x.Name, x.Fields = "turned", 9
	if y, is := Record(e, "S"); !is || infoText(y) != was {
		t.Errorf("%v, %s, want %s", is, infoText(y), was)
	}
}
