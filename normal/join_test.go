package normal

import (
	"slices"
	"strings"
	"testing"

	"batten/api"
	"batten/env"
	"batten/sample"
	"batten/term"
)

// Forms that are put together of parts, whatever these are.

// opened: a term's head, and what stands in it, as they are.
func opened(t api.Term) (h api.Term, own, l []api.Term, is bool) {
	h, l = term.Spine(t)
	own, h.T = h.T, nil
	return h, own, l, true
}

// Of parts without a step there comes what comes of the term.
func TestJoinOfTerms(t *testing.T) {
	e := basis(t, sample.Strangers()...)
	for what, c := range sample.Contracted() {
		if c.Steps > 0 {
			continue
		}
		for _, x := range []api.Term{c.X, lam(n, app(f, c.X))} {
			want, _, _ := Form(e, x, 0)
			if got, is := Join(e, x, opened); !is || !term.Same(got, want) {
				t.Errorf("%s: %s, want %s", what, text(got), text(want))
			}
		}
	}
	if got, is := Join(nil, lam(n, app(f, vr(0))), opened); !is || text(got) != text(f) {
		t.Errorf("of no environment: %s", text(got))
	}
}

// Parts are opened one behind the other, those of a head ahead of those that it is applied to, each once; behind one that is not told none is.
func TestJoinInOrder(t *testing.T) {
	heads := map[string]api.Term{"L": {K: api.Lam}, "P": {K: api.Pi}, "F": {K: api.Proj, S: "S"}, "x": vr(1), "c": a}
	own := map[string]string{"L": "ab", "P": "Lc", "F": "x"} // what stands in which
	args := map[string]string{"P": "Fd", "x": "ec"}
	all := "PLabcFxecd"
	for most := range len(all) + 1 {
		var seen []string
		n, is := Join(basis(t), "P", func(p string) (h api.Term, o, l []string, is bool) {
			seen = append(seen, p)
			h, named := heads[p]
			if !named {
				h = con(p)
			}
			return h, strings.Split(own[p], ""), strings.Split(args[p], ""), len(seen) <= most
		})
		want := pi(lam(con("a"), con("b")), a)
		want = apply(want, prj("S", 0, apply(vr(1), con("e"), a)), con("d"))
		switch {
		case most < len(all):
			if is || !zeroTerm(n) || strings.Join(seen, "") != all[:most+1] {
				t.Errorf("%d: %s, %s", most, seen, text(n))
			}
		case !is || text(n) != text(want) || strings.Join(seen, "") != all:
			t.Errorf("%s: %s", seen, text(n))
		}
	}
}

// What is opened without an end ends, in all ways; what may not be is told of none.
func TestJoinOfWhatMayNotBe(t *testing.T) {
	e := basis(t, sample.Strangers()...)
	more := slices.Repeat([]int{0}, 3000)
	for what, c := range map[string]struct {
		h      api.Term
		own, l []int
	}{
		"a lambda":             {api.Term{K: api.Lam}, []int{0, 0}, nil},
		"functions":            {api.Term{K: api.Pi}, []int{0, 0}, nil},
		"functions, applied":   {api.Term{K: api.Pi}, []int{0, 0}, more},
		"a field":              {prj("S", 0, n), []int{0}, []int{0}},
		"an axiom":             {f, nil, []int{0}},
		"an axiom of many":     {f, nil, more},
		"a structure's":        {con("Pair.mk"), nil, []int{0, 0, 0, 0}},
		"a structure's, more":  {con("Pair.mk"), nil, more},
		"a structure's fields": {con("Other.mk"), nil, []int{0, 0}},
	} {
		c.h.T = nil
		n, is := Join(e, 0, func(int) (api.Term, []int, []int, bool) { return c.h, c.own, c.l, true })
		if is || !zeroTerm(n) {
			t.Errorf("%s: %s", what, text(n))
		}
	}
	for _, h := range []api.Term{{}, vr(sample.Far + 1), vr(-1), con(""), {K: api.Lam}, srt(sample.BadLevels()[0])} {
		for _, e := range []*env.Env{e, nil} {
			if n, is := Join(e, 0, func(int) (api.Term, []int, []int, bool) { return h, nil, nil, true }); is || !zeroTerm(n) {
				t.Errorf("%s: %s", text(h), text(n))
			}
		}
	}
}
