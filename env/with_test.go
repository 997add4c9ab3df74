package env

import (
	"testing"

	"batten/api"
	"batten/sample"
)

// P7.1: With. What it tells of lists is held against Add in all tests (adds).

func TestWithIsAnother(t *testing.T) {
	e, w := filled(t, sample.NumberInfos()...)
	a, b, c := axiom(0, "a", con("N")), axiom(0, "b", con("a")), axiom(1, "a", srt(sample.P(0, 0)))
	o, f := e.With(a, b)
	v := w.clone()
	if g := v.add(a, b); f != api.OK || g != api.OK {
		t.Fatalf("errors %d, %d", f, g)
	}
	holds(t, o, v)
	holds(t, e, w)
	adds(t, e, w, api.ErrNone, b) // of what is only in the other one
	adds(t, e, w, api.OK, c)      // of a name that stands for something else there
	holds(t, o, v)
	adds(t, o, v, api.ErrName, c)
	adds(t, o, v, api.OK, def(0, "d", con("N"), con("b")))
	holds(t, e, w)
	adds(t, e, w, api.OK, def(0, "d", con("a", two), con("a", zero)), def(0, "e", con("N"), con("d")))
	holds(t, o, v)
	isNot(t, o, "e")
}

// Of one environment many, and of these others: what is added to one says nothing to any other one.
func TestWithOfWith(t *testing.T) {
	type both struct {
		e *Env
		w *words
	}
	e, w := filled(t, axiom(0, "N", srt(zero)))
	all := []both{{e, w}}
	for i, s := range []string{"a", "b", "c", "d", "e", "f", "g"} {
		for _, x := range all {
			o, f := x.e.With(def(0, s, con("N"), con("N")))
			v := x.w.clone()
			if g := v.add(def(0, s, con("N"), con("N"))); f != api.OK || g != api.OK {
				t.Fatalf("errors %d, %d", f, g)
			}
			all = append(all, both{o, v})
		}
		x := all[i*3%len(all)]
		adds(t, x.e, x.w, api.OK, axiom(0, s+".own", con("N")))
	}
	for _, x := range all {
		holds(t, x.e, x.w)
	}
	for _, x := range all {
		adds(t, x.e, x.w, api.OK, axiom(0, "last", con("N")))
	}
	for _, x := range all {
		holds(t, x.e, x.w)
	}
}

func TestWithOfNone(t *testing.T) {
	e, w := New(), &words{}
	o := other(t, e)
	holds(t, o, w)
	adds(t, e, w, api.OK, axiom(0, "a", srt(zero)))
	holds(t, o, &words{})
	adds(t, o, &words{}, api.OK, axiom(0, "b", srt(zero)))
	holds(t, e, w)
}
