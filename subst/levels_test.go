package subst

import (
	"slices"
	"strconv"
	"testing"

	"batten/api"
	"batten/sample"
)

// P4.4

// lv: a level of C and the first P, the others of which are not there.
func lv(c int, ps ...int) api.Level {
	l := api.Level{C: c, P: zero.P}
	copy(l.P[:], ps)
	return l
}

func TestLevels(t *testing.T) {
	one, p0, p1 := lv(1), lv(0, 0), lv(0, -1, 0)
	up := lv(0, 1)               // p(0) + 1
	both := lv(0, 2, 5)          // the greater one of p(0) + 2 and p(1) + 5
	last := lv(3, -1, -1, -1, 2) // the greater one of 3 and p(3) + 2
	for what, c := range map[string]struct {
		t    api.Term
		by   []api.Level
		want api.Term
	}{
		"of a sort":                {srt(up), []api.Level{p1}, srt(lv(0, -1, 1))},
		"of a sort, by a number":   {srt(up), []api.Level{two}, srt(lv(3))},
		"of a sort, by two":        {srt(both), []api.Level{p1, p0}, srt(lv(0, 5, 2))},
		"of a constant":            {con("A", up, zero, both), []api.Level{one, one}, con("A", two, zero, lv(6))},
		"in their form":            {con("A", last), []api.Level{zero, zero, zero, p0}, con("A", lv(3, 2))},
		"in their form, by more":   {con("A", last), []api.Level{zero, zero, zero, lv(0, 1)}, con("A", lv(0, 3))},
		"by more than asked for":   {srt(up), []api.Level{one, two, up, both, last, p0}, srt(two)},
		"of numbers, by nothing":   {con("A", one, two), nil, con("A", one, two)},
		"of numbers, by some":      {con("A", one, two), []api.Level{up}, con("A", one, two)},
		"of a constant without":    {con("A"), nil, con("A")},
		"variables stay":           {lam(srt(p0), app(vr(0), vr(1))), []api.Level{two}, lam(srt(two), app(vr(0), vr(1)))},
		"fields stay":              {prj("S", 3, con("A", p0)), []api.Level{two}, prj("S", 3, con("A", two))},
		"in all places":            {let(srt(p0), pi(srt(p0), con("A", p0)), app(srt(up), vr(2))), []api.Level{two}, let(srt(two), pi(srt(two), con("A", two)), app(srt(lv(3)), vr(2)))},
		"all at a time":            {con("A", p0, p1, both), []api.Level{p1, p0}, con("A", p1, p0, lv(0, 5, 2))},
		"the greatest number":      {srt(up), []api.Level{lv(api.TopLevel - 1)}, srt(lv(api.TopLevel))},
		"the greatest number of p": {srt(up), []api.Level{lv(0, -1, api.TopLevel-1)}, srt(lv(0, -1, api.TopLevel))},
	} {
		want(t, what, of(Levels(c.t, c.by)), of(c.want, 0))
	}
}

// The first error from the left is the one that is told.
func TestLevelsErrors(t *testing.T) {
	short, much := lv(0, -1, 0), lv(0, 1) // by one level, of the number TopLevel
	top := []api.Level{lv(api.TopLevel)}
	for what, c := range map[string]struct {
		t  api.Term
		by []api.Level
		e  api.Errno
	}{
		"by nothing":                         {srt(much), nil, api.ErrLevel},
		"by an empty list":                   {srt(much), []api.Level{}, api.ErrLevel},
		"too short":                          {srt(short), top, api.ErrLevel},
		"too short by one, of four":          {con("A", lv(0, -1, -1, -1, 0)), []api.Level{zero, zero, zero}, api.ErrLevel},
		"too short, the last one":            {app(vr(0), lam(srt(zero), con("A", two, zero, short))), top, api.ErrLevel},
		"too much":                           {srt(much), top, api.ErrMany},
		"too much of p":                      {srt(much), []api.Level{lv(0, -1, api.TopLevel)}, api.ErrMany},
		"too much, the last one":             {app(vr(0), lam(srt(zero), con("A", two, zero, much))), top, api.ErrMany},
		"in a node, too short ahead":         {con("A", short, much), top, api.ErrLevel},
		"in a node, too much ahead":          {con("A", much, short), top, api.ErrMany},
		"in an App, too short ahead":         {app(srt(short), srt(much)), top, api.ErrLevel},
		"in an App, too much ahead":          {app(srt(much), srt(short)), top, api.ErrMany},
		"in a lambda, too short ahead":       {lam(srt(short), srt(much)), top, api.ErrLevel},
		"in a lambda, too much ahead":        {lam(srt(much), srt(short)), top, api.ErrMany},
		"in a Let, too short ahead":          {let(vr(0), srt(short), srt(much)), top, api.ErrLevel},
		"in a Let, too much ahead":           {let(con("A", zero, much), srt(short), srt(short)), top, api.ErrMany},
		"far inside, on the left, much":      {app(app(vr(0), prj("S", 0, srt(much))), srt(short)), top, api.ErrMany},
		"far inside, on the left, short":     {app(pi(vr(0), prj("S", 0, con("A", short))), srt(much)), top, api.ErrLevel},
		"what may not be, ahead of all":      {app(srt(much), srt(short)), append(sample.BadLevels()[:1:1], top...), api.ErrArg},
		"what may not be, behind":            {srt(short), append(top[:1:1], sample.BadLevels()[3]), api.ErrArg},
		"what may not be, of a number":       {app(vr(0), srt(zero)), sample.BadLevels()[1:2], api.ErrArg},
		"what may not be, behind the fourth": {srt(zero), append(slices.Repeat(top, 9), sample.BadLevels()[2]), api.ErrArg},
		"what may not be, nowhere asked":     {con("A", much, short), []api.Level{two, two, two, two, {C: -1}}, api.ErrArg},
	} {
		wantFails(t, what, of(Levels(c.t, c.by)), c.e)
	}
}

func TestLevelsOfWhatMayNotBe(t *testing.T) {
	for i, x := range sample.Bads() {
		for _, by := range [][]api.Level{nil, {zero}, {zero, two, param, great}, sample.BadLevels()} {
			wantFails(t, "the bad one "+strconv.Itoa(i), of(Levels(x, by)), api.ErrArg)
		}
	}
	// Where no level is, none is asked for.
	for _, x := range []api.Term{vr(0), con("A"), lam(con("A"), prj("S", 0, vr(far)))} {
		for _, by := range append([][]api.Level{nil, {zero}}, sample.BadLevels()) {
			want(t, text(x), of(Levels(x, by)), of(x, 0))
		}
	}
}

func TestLevelsIsAsTold(t *testing.T) {
	ls := []api.Level{zero, two, param, lv(api.TopLevel), lv(0, 0), lv(3, 1, -1, -1, 2), lv(0, api.TopLevel)}
	bys := [][]api.Level{nil, {zero, zero}, {two, lv(0, 0), param}, {lv(0, 7), lv(5, 0), two, param}, {lv(api.TopLevel), zero}, {zero, two, {C: -1}}, {zero, zero, zero, zero, two}}
	var terms []api.Term
	for _, a := range ls {
		terms = append(terms, srt(a), con("A", a))
		for _, b := range ls {
			terms = append(terms, con("A", a, b), app(srt(a), srt(b)), pi(vr(0), lam(con("B", a), app(vr(0), srt(b)))))
		}
	}
	errs := map[api.Errno]int{}
	for _, x := range append(terms, some(9)...) {
		for i, by := range bys {
			w := of(wordsLevels(x, by))
			errs[w.e]++
			want(t, text(x)+" by the list "+strconv.Itoa(i), of(Levels(x, by)), w)
		}
	}
	for _, e := range []api.Errno{api.OK, api.ErrArg, api.ErrLevel, api.ErrMany} {
		if errs[e] == 0 {
			t.Errorf("none of them has the error %d", e)
		}
	}
}

// A great term, and a long list, a level of which is asked for at each place: the call ends soon.
func TestLevelsOfMany(t *testing.T) {
	x := filled(sample.OfSize(api.TopTerm), con("A", lv(0, 1), lv(0, -1, -1, -1, 3)))
	by := slices.Repeat([]api.Level{two}, 1<<12)
	want(t, "of many", of(Levels(x, by)), of(filled(sample.OfSize(api.TopTerm), con("A", lv(3), lv(5))), 0))
	by[len(by)-1].C = -1
	wantFails(t, "of many, the last of which may not be", of(Levels(x, by)), api.ErrArg)
	for i, step := range sample.Steps() {
		deep := sample.OfDepth(api.TopDepth, srt(lv(0, 1)), step)
		want(t, "way "+strconv.Itoa(i), of(Levels(deep, by[:2])), of(sample.OfDepth(api.TopDepth, srt(lv(3)), step), 0))
	}
}
