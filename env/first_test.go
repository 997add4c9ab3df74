package env

import (
	"slices"
	"strconv"
	"testing"

	"batten/api"
	"batten/sample"
)

// P7.1: which of several wrong things is told, and that nothing is added with an error.

// mending is an info that is wrong in all that may be, and what mends one thing after the other, each with the error that is told ahead of it.
func mending(kind uint8) (x api.Info, errors []api.Errno, mend []func(x *api.Info)) {
	x = api.Info{Kind: 0, Name: "a-b", Params: -1, Type: app(con("none"), vr(0)), Value: app(con("none"), vr(0)), Fixed: 1001}
	x.Rules = []api.Rule{rule("", 1001, app(con("none"), vr(0))), rule("", 0, api.Term{})}
	step := func(f api.Errno, m func(x *api.Info)) { errors, mend = append(errors, f), append(mend, m) }
	step(api.ErrName, func(x *api.Info) { x.Name = "a" }) // there
	step(api.ErrName, func(x *api.Info) { x.Name = "twice" })
	step(api.ErrName, func(x *api.Info) { x.Name = "x" })
	step(api.ErrArg, func(x *api.Info) { x.Kind = kind })
	step(api.ErrArg, func(x *api.Info) { x.Fixed = 0 })
	step(api.ErrArg, func(x *api.Info) { x.Rules[0].Fields = 1000 })
	step(api.ErrLevel, func(x *api.Info) { x.Params = 1 })
	terms := []func(x *api.Info) *api.Term{func(x *api.Info) *api.Term { return &x.Type }}
	if kind == api.IsDef || kind == api.IsTheorem {
		terms = append(terms, func(x *api.Info) *api.Term { return &x.Value })
	}
	terms = append(terms,
		func(x *api.Info) *api.Term { return &x.Rules[0].Body },
		func(x *api.Info) *api.Term { return &x.Rules[1].Body })
	for _, at := range terms {
		step(api.ErrVar, func(x *api.Info) { *at(x) = app(con("none", param), vr(1)) })
		step(api.ErrVar, func(x *api.Info) { *at(x) = con("none", zero, sample.P(1, 0)) })
		step(api.ErrLevel, func(x *api.Info) { *at(x) = con("none", sample.P(0, 7)) })
	}
	for _, at := range terms {
		step(api.ErrNone, func(x *api.Info) { *at(x) = con("N") })
	}
	return x, errors, mend
}

func TestWhichIsToldOfOne(t *testing.T) {
	for kind := api.IsAxiom; kind <= api.IsRec; kind++ {
		e, w := basis(t)
		twice := axiom(0, "twice", srt(zero))
		x, errors, mend := mending(kind)
		for i, m := range mend {
			adds(t, e, w, errors[i], twice, cloneInfo(x))
			m(&x)
		}
		adds(t, e, w, api.OK, twice, x)
	}
}

// The first of a list of which something is wrong is told, whatever it is, and whatever is wrong with those behind it.
func TestWhichIsToldOfMany(t *testing.T) {
	e, w := basis(t)
	wrong := []api.Info{
		axiom(0, "", srt(zero)),
		axiom(0, "N", srt(zero)),
		{Name: "k", Type: srt(zero)},
		{Kind: api.IsType, Name: "m", Type: srt(zero), Ctors: -1},
		axiom(5, "p", srt(zero)),
		axiom(0, "v", vr(0)),
		axiom(0, "l", srt(param)),
		axiom(0, "none", con("no.one")),
		def(0, "own", con("N"), con("own")),
	}
	fault := func(i int) api.Errno {
		return []api.Errno{api.ErrName, api.ErrName, api.ErrArg, api.ErrArg, api.ErrLevel, api.ErrVar, api.ErrLevel, api.ErrNone, api.ErrNone}[i]
	}
	good := []api.Info{axiom(0, "b", con("c")), def(0, "c", con("b"), con("N"))}
	for i, x := range wrong {
		for j, y := range wrong {
			adds(t, e, w, fault(i), x, y)
			if i != j {
				adds(t, e, w, fault(i), append(slices.Clone(good), x, y)...)
			}
		}
		adds(t, e, w, fault(i), append(slices.Clone(good), x)...)
		adds(t, e, w, fault(i), append([]api.Info{x}, good...)...)
	}
	adds(t, e, w, api.OK, good...)
}

// What is added with something wrong is not there, neither for what comes later nor by its name.
func TestNothingIsAddedWithAnError(t *testing.T) {
	e, w := New(), &words{}
	for i := range 50 {
		s := strconv.Itoa(i)
		adds(t, e, w, api.ErrVar, axiom(0, "a"+s, srt(zero)), axiom(0, "b", vr(0)))
		adds(t, e, w, api.ErrNone, axiom(0, "b", con("a"+s)))
		adds(t, e, w, api.ErrNone, def(0, "d", con("d"), srt(zero)))
	}
	if f := e.Add(append(many(most, "a"), api.Info{})...); f != api.ErrMany {
		t.Errorf("error %d", f)
	}
	if f := e.Add(append(many(most-1, "a"), api.Info{})...); f != api.ErrName {
		t.Errorf("error %d", f)
	}
	holds(t, e, w)
	adds(t, e, w, api.OK, axiom(0, "a0", con("b")), axiom(0, "b", con("a0")))
}

// P7.1 to P7.3, R1, R4: of no environment, and of one that no call answered.
func TestOfNoEnvironment(t *testing.T) {
	var e *Env
	for _, l := range [][]api.Info{nil, sample.Infos(), {{}}, many(most+1, "a"), {axiom(0, "N", vr(0))}} {
		if f := e.Add(l...); f != api.ErrNil {
			t.Errorf("Add: error %d", f)
		}
		if o, f := e.With(l...); f != api.ErrNil || o != nil {
			t.Errorf("With: error %d", f)
		}
	}
	for _, s := range []string{"", "N"} {
		if x, is := e.Find(s); is || infoText(x) != infoText(api.Info{}) {
			t.Errorf("Find: %v", is)
		}
	}
	if l := e.List(); len(l) != 0 {
		t.Errorf("List: %q", l)
	}
	for _, x := range append(sample.Bads(), con("N"), srt(zero), con("N", zero)) {
		nothingOf(t, e, x, api.ErrNil)
	}
	holds(t, &Env{}, &words{})
	adds(t, &Env{}, &words{}, api.OK, sample.NumberInfos()...)
}
