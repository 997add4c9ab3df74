package subst

import (
	"slices"
	"strconv"
	"testing"

	"batten/api"
	"batten/sample"
	"batten/term"
)

// P4.2

func TestInst(t *testing.T) {
	a, b, c := con("a"), con("b"), con("c")
	in := lam(vr(0), app(vr(0), let(vr(1), vr(2), app(vr(0), app(vr(1), app(vr(2), vr(3)))))))
	for what, x := range map[string]struct {
		t    api.Term
		l    []api.Term
		want api.Term
	}{
		"the chapter's": {app(vr(0), vr(1)), []api.Term{c}, app(c, vr(0))},

		"by nothing":                    {in, nil, in},
		"by an empty list":              {in, []api.Term{}, in},
		"by one":                        {vr(0), []api.Term{c}, c},
		"the next one":                  {vr(1), []api.Term{c}, vr(0)},
		"by three, of all":              {app(app(vr(0), vr(1)), app(vr(2), vr(3))), []api.Term{a, b, c}, app(app(c, b), app(a, vr(0)))},
		"the last of two is for 0":      {vr(0), []api.Term{a, b}, b},
		"the first of two is for 1":     {vr(1), []api.Term{a, b}, a},
		"behind them":                   {vr(5), []api.Term{a, b}, vr(3)},
		"by more than are free":         {app(vr(0), a), []api.Term{vr(4), vr(5), b}, app(b, a)},
		"by some, none is free":         {lam(a, vr(0)), []api.Term{vr(4), vr(5), b}, lam(a, vr(0))},
		"in a lambda":                   {lam(a, app(vr(0), vr(1))), []api.Term{c}, lam(a, app(vr(0), c))},
		"in a lambda, lifted":           {lam(vr(0), app(vr(0), app(vr(1), vr(2)))), []api.Term{vr(7)}, lam(vr(7), app(vr(0), app(vr(8), vr(1))))},
		"in a Pi, lifted":               {pi(vr(0), app(vr(0), app(vr(1), vr(2)))), []api.Term{vr(7)}, pi(vr(7), app(vr(0), app(vr(8), vr(1))))},
		"in a Let, lifted in one":       {let(vr(0), vr(0), app(vr(0), app(vr(1), vr(2)))), []api.Term{vr(7)}, let(vr(7), vr(7), app(vr(0), app(vr(8), vr(1))))},
		"in a Proj":                     {prj("S", 4, vr(0)), []api.Term{prj("T", 5, vr(1))}, prj("S", 4, prj("T", 5, vr(1)))},
		"in more, lifted":               {in, []api.Term{vr(3)}, lam(vr(3), app(vr(0), let(vr(4), vr(1), app(vr(0), app(vr(1), app(vr(5), vr(2)))))))},
		"by two, lifted":                {in, []api.Term{vr(3), vr(9)}, lam(vr(9), app(vr(0), let(vr(10), vr(4), app(vr(0), app(vr(1), app(vr(11), vr(5)))))))},
		"what it binds itself stays":    {lam(a, vr(1)), []api.Term{lam(vr(0), app(vr(0), vr(1)))}, lam(a, lam(vr(1), app(vr(0), vr(2))))},
		"all at a time":                 {app(vr(0), vr(1)), []api.Term{vr(0), vr(1)}, app(vr(1), vr(0))},
		"all at a time, in a lambda":    {lam(a, app(vr(1), vr(2))), []api.Term{vr(0), vr(1)}, lam(a, app(vr(2), vr(1)))},
		"nothing is reduced":            {app(vr(0), vr(0)), []api.Term{lam(a, vr(0))}, app(lam(a, vr(0)), lam(a, vr(0)))},
		"nothing is reduced, of a Let":  {let(a, b, vr(1)), []api.Term{c}, let(a, b, c)},
		"the same one, at other depths": {app(vr(0), lam(a, app(vr(1), lam(b, vr(2))))), []api.Term{vr(0)}, app(vr(0), lam(a, app(vr(1), lam(b, vr(2)))))},
		"levels stay":                   {app(con("A", two, param), app(srt(great), vr(0))), []api.Term{srt(param)}, app(con("A", two, param), app(srt(great), srt(param)))},
	} {
		want(t, what, of(Inst(x.t, x.l...)), of(x.want, 0))
	}
}

// lists that are put in the place of variables.
func lists() [][]api.Term {
	a, b := lam(vr(0), app(vr(0), app(vr(1), vr(2)))), let(vr(1), con("A", param), app(vr(0), vr(3)))
	return [][]api.Term{
		nil, {con("c")}, {vr(0)}, {vr(5)}, {vr(far)}, {vr(far - 1)}, {a}, {b},
		{vr(0), vr(1)}, {vr(1), vr(0)}, {a, b}, {b, vr(far)}, {vr(far), b},
		{vr(2), a, prj("S", 2, vr(0))}, {a, b, a, b, vr(9)},
	}
}

func TestInstIsAsTold(t *testing.T) {
	errs := map[api.Errno]int{}
	for _, x := range some(7) {
		for i, l := range lists() {
			w := of(wordsInst(x, l...))
			errs[w.e]++
			want(t, text(x)+" by the list "+strconv.Itoa(i), of(Inst(x, l...)), w)
		}
	}
	for _, e := range []api.Errno{api.OK, api.ErrMany} {
		if errs[e] == 0 {
			t.Errorf("none of them has the error %d", e)
		}
	}
}

func TestInstErrArg(t *testing.T) {
	for i, bad := range sample.Bads() {
		what := "the bad one " + strconv.Itoa(i)
		wantFails(t, what, of(Inst(bad)), api.ErrArg)
		wantFails(t, what+", by one", of(Inst(bad, con("c"))), api.ErrArg)
		wantFails(t, what+", by itself", of(Inst(bad, bad)), api.ErrArg)
		for at := range 3 {
			l := []api.Term{con("a"), vr(0), con("c")}
			l[at] = bad
			for _, x := range []api.Term{vr(0), vr(1), vr(2), vr(3), con("A"), lam(vr(7), vr(0)), sample.OfSize(api.TopTerm)} {
				wantFails(t, what+" in the list", of(Inst(x, l...)), api.ErrArg)
			}
		}
	}
	// Also where too much would come of the others.
	half := sample.OfSize(api.TopTerm / 2)
	wantFails(t, "ahead of ErrMany", of(Inst(half, vr(-1), half)), api.ErrArg)
	wantFails(t, "ahead of ErrMany", of(Inst(lam(vr(0), vr(1)), api.Term{}, vr(far))), api.ErrArg)
}

// Numbers that grow below binders.
func TestInstFar(t *testing.T) {
	z := srt(zero)
	for what, x := range map[string]struct {
		t    api.Term
		l    []api.Term
		want answered
	}{
		"below none":                    {vr(0), []api.Term{vr(far)}, of(vr(far), 0)},
		"below one":                     {lam(z, vr(1)), []api.Term{vr(far)}, fails(api.ErrMany)},
		"below one, to the greatest":    {lam(z, vr(1)), []api.Term{vr(far - 1)}, of(lam(z, vr(far)), 0)},
		"below two":                     {pi(z, let(z, z, vr(2))), []api.Term{vr(far - 1)}, fails(api.ErrMany)},
		"below two, to the greatest":    {pi(z, let(z, z, vr(2))), []api.Term{vr(far - 2)}, of(pi(z, let(z, z, vr(far))), 0)},
		"within what is put there":      {lam(z, vr(1)), []api.Term{lam(z, vr(far))}, fails(api.ErrMany)},
		"within, to the greatest":       {lam(z, vr(1)), []api.Term{lam(z, vr(far-1))}, of(lam(z, lam(z, vr(far))), 0)},
		"nowhere":                       {lam(z, vr(5)), []api.Term{vr(far)}, of(lam(z, vr(4)), 0)},
		"nowhere, of two":               {lam(z, vr(1)), []api.Term{vr(far), vr(3)}, of(lam(z, vr(4)), 0)},
		"the greatest one, one less":    {vr(far), []api.Term{z}, of(vr(far-1), 0)},
		"the greatest one, in a lambda": {lam(z, vr(far)), []api.Term{z, z}, of(lam(z, vr(far-2)), 0)},
	} {
		want(t, what, of(Inst(x.t, x.l...)), x.want)
	}
}

// As many terms as there may be variables, and more.
func TestInstOfMany(t *testing.T) {
	l := slices.Repeat([]api.Term{vr(7)}, far+2)
	l[0], l[1], l[2], l[far], l[far+1] = con("a"), con("b"), con("c"), con("d"), con("e")
	all := app(app(vr(0), vr(1)), app(vr(far-1), lam(vr(far), vr(far))))
	for n, x := range map[int]api.Term{
		far + 2: app(app(con("e"), con("d")), app(con("c"), lam(con("b"), con("c")))),
		far + 1: app(app(con("d"), vr(7)), app(con("b"), lam(con("a"), con("b")))),
		far:     app(app(vr(7), vr(7)), app(con("a"), lam(vr(0), con("a")))),
		far - 1: app(app(vr(7), vr(7)), app(vr(0), lam(vr(1), vr(1)))),
	} {
		want(t, "by "+strconv.Itoa(n), of(Inst(all, l[:n]...)), of(x, 0))
	}
}

func TestInstSize(t *testing.T) {
	fill := func(n int) api.Term { return filled(sample.OfSize(n), con("A")) }
	great := sample.OfSize(api.TopTerm)
	for what, x := range map[string]struct {
		t    api.Term
		l    []api.Term
		size int // 0: it is too great
	}{
		"one place":                     {app(vr(0), fill(30000)), []api.Term{fill(api.TopTerm - 30001)}, api.TopTerm},
		"one place, and one more":       {app(vr(0), fill(30000)), []api.Term{fill(api.TopTerm - 30000)}, 0},
		"two places":                    {prj("S", 0, app(vr(0), vr(0))), []api.Term{fill(api.TopTerm/2 - 1)}, api.TopTerm},
		"two places, and one more":      {prj("S", 0, app(vr(0), vr(0))), []api.Term{fill(api.TopTerm / 2)}, 0},
		"of two":                        {app(vr(0), vr(1)), []api.Term{fill(65000), fill(535)}, api.TopTerm},
		"of two, and one more":          {app(vr(0), vr(1)), []api.Term{fill(65000), fill(536)}, 0},
		"of two, the other way":         {app(vr(0), vr(1)), []api.Term{fill(536), fill(65000)}, 0},
		"below binders":                 {lam(con("A"), app(vr(1), vr(0))), []api.Term{sample.OfSize(api.TopTerm - 4)}, api.TopTerm},
		"below binders, and one more":   {lam(con("A"), app(vr(1), vr(0))), []api.Term{sample.OfSize(api.TopTerm - 3)}, 0},
		"the greatest one, by leaves":   {great, []api.Term{con("A")}, api.TopTerm},
		"the greatest one, by two":      {great, []api.Term{prj("S", 0, con("A"))}, 0},
		"the greatest one, at one":      {app(vr(1), fill(api.TopTerm-2)), []api.Term{prj("S", 0, vr(0)), vr(0)}, 0},
		"great ones nowhere":            {vr(2), []api.Term{great, great}, 1},
		"a great one, of two":           {vr(1), []api.Term{great, great}, api.TopTerm},
		"far too great":                 {great, []api.Term{great}, 0},
		"far too great, below a binder": {lam(con("A"), filled(sample.OfSize(api.TopTerm-2), vr(1))), []api.Term{great}, 0},
	} {
		got, e := Inst(x.t, x.l...)
		if x.size == 0 {
			wantFails(t, what, of(got, e), api.ErrMany)
			continue
		}
		if e != api.OK || term.Size(got) != x.size {
			t.Errorf("%s: error %d, %d nodes, want %d", what, e, term.Size(got), x.size)
		}
		want(t, what, of(got, e), of(wordsInst(x.t, x.l...)))
	}
}

func TestInstDepth(t *testing.T) {
	chain := func(n int) api.Term { return sample.OfDepth(n, con("A"), sample.Steps()[9]) }
	for i := range sample.Steps() {
		for _, n := range []int{1, 2, api.TopDepth - 1, api.TopDepth} {
			what := "way " + strconv.Itoa(i) + ", " + strconv.Itoa(n) + " deep"
			x := inward(n, i, 0)
			in := chain(api.TopDepth + 1 - n)
			want(t, what, of(Inst(x, in)), of(wordsInst(x, in)))
			if got, e := Inst(x, in); e != api.OK || !term.May(got) {
				t.Errorf("%s: error %d", what, e)
			}
			if n > 1 {
				wantFails(t, what+", and one more", of(Inst(x, chain(api.TopDepth+2-n))), api.ErrMany)
			}
		}
	}
	if _, e := Inst(app(vr(0), vr(1)), chain(api.TopDepth), con("A")); e != api.ErrMany {
		t.Errorf("the deepest one, in one more: error %d", e)
	}
	deep := prj("S", 0, vr(1))
	want(t, "the deepest one, nowhere", of(Inst(deep, con("A"), chain(api.TopDepth))), of(prj("S", 0, con("A")), 0))
}
