package subst

import (
	"math"
	"strconv"
	"testing"

	"batten/api"
	"batten/sample"
)

// P4.3

func TestClose(t *testing.T) {
	all := app(app(vr(0), vr(1)), app(vr(2), vr(3)))
	in := lam(vr(1), app(app(vr(0), vr(1)), let(vr(2), vr(3), app(app(vr(0), vr(1)), app(vr(2), app(vr(3), vr(4)))))))
	z := srt(zero)
	for what, c := range map[string]struct {
		t    api.Term
		k    int
		want answered
	}{
		"0":                              {all, 0, of(all, 0)},
		"0, in more":                     {in, 0, of(in, 0)},
		"1":                              {all, 1, of(app(app(vr(1), vr(0)), app(vr(2), vr(3))), 0)},
		"2":                              {all, 2, of(app(app(vr(1), vr(2)), app(vr(0), vr(3))), 0)},
		"3":                              {all, 3, of(app(app(vr(1), vr(2)), app(vr(3), vr(0))), 0)},
		"one that is not there":          {all, 4, of(app(app(vr(1), vr(2)), app(vr(3), vr(4))), 0)},
		"one that is not there, between": {app(vr(0), vr(2)), 1, of(app(vr(1), vr(2)), 0)},
		"one far above":                  {all, math.MaxInt, of(app(app(vr(1), vr(2)), app(vr(3), vr(4))), 0)},
		"1, in more":                     {in, 1, of(lam(vr(0), app(app(vr(0), vr(2)), let(vr(1), vr(3), app(app(vr(0), vr(1)), app(vr(3), app(vr(2), vr(4))))))), 0)},
		"2, in more":                     {in, 2, of(lam(vr(2), app(app(vr(0), vr(2)), let(vr(3), vr(1), app(app(vr(0), vr(1)), app(vr(3), app(vr(4), vr(2))))))), 0)},
		"of bound ones":                  {lam(z, pi(vr(0), app(vr(0), vr(1)))), 1, of(lam(z, pi(vr(0), app(vr(0), vr(1)))), 0)},
		"of none":                        {app(con("A", two), z), 7, of(app(con("A", two), z), 0)},
		"in a field":                     {prj("S", 3, vr(2)), 2, of(prj("S", 3, vr(0)), 0)},
		"in a Let":                       {let(vr(1), vr(1), vr(2)), 1, of(let(vr(0), vr(0), vr(1)), 0)},
		"in a Pi":                        {pi(vr(1), vr(2)), 1, of(pi(vr(0), vr(1)), 0)},
		"binders beside end":             {app(lam(vr(1), vr(2)), vr(1)), 1, of(app(lam(vr(0), vr(1)), vr(0)), 0)},

		"the greatest one":              {vr(far), far, of(vr(0), 0)},
		"the greatest one, below":       {vr(far), far + 1, fails(api.ErrMany)},
		"the greatest one, far below":   {vr(far), math.MaxInt, fails(api.ErrMany)},
		"the greatest one, above":       {vr(far), far - 1, of(vr(far), 0)},
		"to the greatest one":           {vr(far - 1), far, of(vr(far), 0)},
		"to the greatest, in a lambda":  {lam(z, vr(far-1)), far, of(lam(z, vr(far)), 0)},
		"above it, in a lambda":         {lam(z, vr(far)), far, fails(api.ErrMany)},
		"above it, in two":              {app(vr(0), lam(z, vr(far))), math.MaxInt, fails(api.ErrMany)},
		"the greatest one, in a lambda": {lam(z, vr(far)), far - 1, of(lam(z, vr(1)), 0)},
		"it, in a lambda, above":        {lam(z, vr(far)), far - 2, of(lam(z, vr(far)), 0)},
	} {
		want(t, what, of(Close(c.t, c.k)), c.want)
	}
}

func TestCloseErrArg(t *testing.T) {
	for i, x := range sample.Bads() {
		for _, k := range []int{math.MinInt, -1, 0, 1, far, math.MaxInt} {
			wantFails(t, "the bad one "+strconv.Itoa(i), of(Close(x, k)), api.ErrArg)
		}
	}
	for _, k := range []int{-1, -2, -far, math.MinInt} {
		for _, x := range []api.Term{srt(zero), vr(0), vr(far), lam(vr(0), vr(0))} {
			wantFails(t, text(x)+" at "+strconv.Itoa(k), of(Close(x, k)), api.ErrArg)
		}
	}
}

func TestCloseIsAsTold(t *testing.T) {
	errs := map[api.Errno]int{}
	for _, x := range some(2) {
		for _, k := range []int{-1, 0, 1, 2, 3, far - 1, far, far + 1, math.MaxInt} {
			w := of(wordsClose(x, k))
			errs[w.e]++
			want(t, text(x)+" at "+strconv.Itoa(k), of(Close(x, k)), w)
		}
	}
	for _, e := range []api.Errno{api.OK, api.ErrArg, api.ErrMany} {
		if errs[e] == 0 {
			t.Errorf("none of them has the error %d", e)
		}
	}
}

// Of the greatest and the deepest terms, that stay as great and as deep.
func TestCloseGreat(t *testing.T) {
	x := sample.OfSize(api.TopTerm)
	want(t, "the greatest", of(Close(x, 1)), of(wordsClose(x, 1)))
	for i := range sample.Steps() {
		for k := range 4 {
			deep := inward(api.TopDepth, i, 2)
			want(t, "way "+strconv.Itoa(i)+" at "+strconv.Itoa(k), of(Close(deep, k)), of(wordsClose(deep, k)))
		}
	}
}
