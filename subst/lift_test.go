package subst

import (
	"math"
	"strconv"
	"testing"

	"batten/api"
	"batten/sample"
)

// P4.1

func TestLift(t *testing.T) {
	in := lam(vr(2), app(vr(0), let(vr(3), vr(1), app(vr(0), app(vr(1), vr(4))))))
	for what, c := range map[string]struct {
		t        api.Term
		from, by int
		want     answered
	}{
		"the chapter's": {lam(srt(zero), app(vr(0), vr(1))), 0, 2, of(lam(srt(zero), app(vr(0), vr(3))), 0)},

		"below from":                      {vr(1), 2, 5, of(vr(1), 0)},
		"at from":                         {vr(2), 2, 5, of(vr(7), 0)},
		"above from":                      {vr(3), 2, 5, of(vr(8), 0)},
		"by nothing":                      {in, 0, 0, of(in, 0)},
		"by 1 from 0":                     {in, 0, 1, of(lam(vr(3), app(vr(0), let(vr(4), vr(2), app(vr(0), app(vr(1), vr(5)))))), 0)},
		"by 3 from 2":                     {in, 2, 3, of(lam(vr(5), app(vr(0), let(vr(6), vr(1), app(vr(0), app(vr(1), vr(7)))))), 0)},
		"by 3 from 3":                     {in, 3, 3, of(in, 0)},
		"down, at from":                   {vr(2), 2, -1, fails(api.ErrVar)},
		"down, just below from":           {vr(1), 2, -1, of(vr(1), 0)},
		"down, just above the last":       {vr(3), 2, -1, of(vr(2), 0)},
		"down, at the last":               {vr(6), 2, -5, fails(api.ErrVar)},
		"down, behind the last":           {vr(7), 2, -5, of(vr(2), 0)},
		"down, in a lambda, at from":      {lam(srt(zero), vr(3)), 2, -2, fails(api.ErrVar)},
		"down, in a lambda, at the last":  {lam(srt(zero), vr(4)), 2, -2, fails(api.ErrVar)},
		"down, in a lambda, behind it":    {lam(srt(zero), vr(5)), 2, -2, of(lam(srt(zero), vr(3)), 0)},
		"down, in a lambda, below from":   {lam(srt(zero), vr(2)), 2, -2, of(lam(srt(zero), vr(2)), 0)},
		"down, bound ones":                {lam(srt(zero), pi(vr(0), app(vr(0), vr(1)))), 0, -2, of(lam(srt(zero), pi(vr(0), app(vr(0), vr(1)))), 0)},
		"down, the last of many":          {app(app(vr(9), vr(8)), prj("S", 1, vr(4))), 3, -2, fails(api.ErrVar)},
		"down, none of many":              {app(app(vr(9), vr(8)), prj("S", 1, vr(5))), 3, -2, of(app(app(vr(7), vr(6)), prj("S", 1, vr(3))), 0)},
		"a field stays":                   {prj("S", 3, vr(0)), 0, 4, of(prj("S", 3, vr(4)), 0)},
		"levels stay":                     {app(con("A", two, param), app(srt(great), vr(0))), 0, 1, of(app(con("A", two, param), app(srt(great), vr(1))), 0)},
		"a let binds in its last alone":   {let(vr(0), vr(0), vr(0)), 0, 1, of(let(vr(1), vr(1), vr(0)), 0)},
		"a lambda binds in its last":      {lam(vr(0), vr(0)), 0, 1, of(lam(vr(1), vr(0)), 0)},
		"a Pi binds in its last":          {pi(vr(0), vr(0)), 0, 1, of(pi(vr(1), vr(0)), 0)},
		"an App binds nothing":            {app(vr(0), vr(0)), 0, 1, of(app(vr(1), vr(1)), 0)},
		"binders beside end":              {app(lam(vr(0), vr(0)), vr(0)), 0, 1, of(app(lam(vr(1), vr(0)), vr(1)), 0)},
		"from is of what stands outside":  {lam(vr(1), lam(vr(2), vr(3))), 1, 1, of(lam(vr(2), lam(vr(3), vr(4))), 0)},
		"from is of what stands outside ": {lam(vr(1), lam(vr(2), vr(3))), 2, 1, of(lam(vr(1), lam(vr(2), vr(3))), 0)},
	} {
		want(t, what, of(Lift(c.t, c.from, c.by)), c.want)
	}
}

// Numbers of variables, from and by at their edges.
func TestLiftFar(t *testing.T) {
	bound := lam(srt(zero), vr(0))
	for what, c := range map[string]struct {
		t        api.Term
		from, by int
		want     answered
	}{
		"to the greatest":                  {vr(far - 1), 0, 1, of(vr(far), 0)},
		"above it":                         {vr(far), 0, 1, fails(api.ErrMany)},
		"far above it":                     {vr(1), 0, far, fails(api.ErrMany)},
		"from nothing to it":               {vr(0), 0, far, of(vr(far), 0)},
		"from nothing above it":            {vr(0), 0, far + 1, fails(api.ErrMany)},
		"to it in a lambda":                {lam(srt(zero), vr(1)), 0, far - 1, of(lam(srt(zero), vr(far)), 0)},
		"above it in a lambda":             {lam(srt(zero), vr(1)), 0, far, fails(api.ErrMany)},
		"the greatest one in a lambda":     {lam(srt(zero), vr(far)), far - 1, 1, fails(api.ErrMany)},
		"below from in a lambda":           {lam(srt(zero), vr(far)), far, 1, of(lam(srt(zero), vr(far)), 0)},
		"the greatest one, by nothing":     {vr(far), 0, 0, of(vr(far), 0)},
		"the greatest one, below from":     {vr(far), far + 1, 7, of(vr(far), 0)},
		"the greatest one, from far":       {vr(far), math.MaxInt, math.MaxInt, of(vr(far), 0)},
		"the greatest one, down":           {vr(far), 0, -far, of(vr(0), 0)},
		"the greatest one, down by more":   {vr(far), 0, -far - 1, fails(api.ErrVar)},
		"from the greatest one, down":      {vr(far), far, -1, fails(api.ErrVar)},
		"by the greatest int":              {vr(0), 0, math.MaxInt, fails(api.ErrMany)},
		"by the greatest int, of 1":        {vr(1), 1, math.MaxInt, fails(api.ErrMany)},
		"by the greatest int, in a lambda": {lam(vr(0), vr(1)), 0, math.MaxInt, fails(api.ErrMany)},
		"by the greatest int, bound":       {bound, 0, math.MaxInt, of(bound, 0)},
		"by the greatest int, below from":  {vr(1), 2, math.MaxInt, of(vr(1), 0)},
		"by the least int":                 {vr(0), 0, math.MinInt, fails(api.ErrVar)},
		"by the least int, of far":         {vr(far), 7, math.MinInt, fails(api.ErrVar)},
		"by the least int, bound":          {bound, 0, math.MinInt, of(bound, 0)},
		"by the least int, below from":     {vr(1), 2, math.MinInt, of(vr(1), 0)},
		"by the least int, from far":       {vr(far), math.MaxInt, math.MinInt, of(vr(far), 0)},
		"by one more than the least int":   {vr(0), 0, math.MinInt + 1, fails(api.ErrVar)},
		"both, up":                         {app(vr(far), vr(0)), 1, 1, fails(api.ErrMany)},
		"both, the other way":              {app(vr(0), vr(far)), 1, 1, fails(api.ErrMany)},
		"by 2^32":                          {vr(1), 0, 1 << 32, fails(api.ErrMany)},
		"by 2^64 - 2^20, as it were":       {vr(1), 0, -1 << 20, fails(api.ErrVar)},
	} {
		want(t, what, of(Lift(c.t, c.from, c.by)), c.want)
	}
}

func TestLiftErrArg(t *testing.T) {
	for i, x := range sample.Bads() {
		for _, from := range []int{math.MinInt, -1, 0, 1, far, math.MaxInt} {
			for _, by := range []int{math.MinInt, -1, 0, 1, math.MaxInt} {
				wantFails(t, "the bad one "+strconv.Itoa(i), of(Lift(x, from, by)), api.ErrArg)
			}
		}
	}
	for _, from := range []int{-1, -2, -far, math.MinInt} {
		for _, by := range []int{math.MinInt, -far, -1, 0, 1, far, math.MaxInt} {
			for _, x := range []api.Term{srt(zero), vr(0), vr(far), lam(vr(0), vr(0))} {
				wantFails(t, text(x)+" from "+strconv.Itoa(from), of(Lift(x, from, by)), api.ErrArg)
			}
		}
	}
}

func TestLiftIsAsTold(t *testing.T) {
	errs := map[api.Errno]int{}
	for _, x := range some(11) {
		for _, from := range []int{-1, 0, 1, 2, 3, far - 1, far} {
			for _, by := range []int{math.MinInt, -far, -3, -2, -1, 0, 1, 2, far - 2, far, math.MaxInt} {
				w := of(wordsLift(x, from, by))
				errs[w.e]++
				want(t, text(x)+" from "+strconv.Itoa(from)+" by "+strconv.Itoa(by), of(Lift(x, from, by)), w)
			}
		}
	}
	for _, e := range []api.Errno{api.OK, api.ErrArg, api.ErrVar, api.ErrMany} {
		if errs[e] == 0 {
			t.Errorf("none of them has the error %d", e)
		}
	}
}

// Of the greatest and the deepest terms.
func TestLiftGreat(t *testing.T) {
	x := sample.OfSize(api.TopTerm)
	for _, by := range []int{-1, 1, far, far + 1} {
		want(t, "the greatest by "+strconv.Itoa(by), of(Lift(x, 0, by)), of(wordsLift(x, 0, by)))
	}
	for i := range sample.Steps() {
		deep := inward(api.TopDepth, i, 1)
		for _, by := range []int{-2, -1, 0, 5} {
			want(t, "way "+strconv.Itoa(i)+" by "+strconv.Itoa(by), of(Lift(deep, 1, by)), of(wordsLift(deep, 1, by)))
		}
	}
}
