package rules

import (
	"slices"
	"testing"

	"batten/api"
	"batten/env"
	"batten/sample"
)

// P8.3

// body of the i-th rule of a recursor at levels, with its levels in the place of parameters.
func body(t *testing.T, e *env.Env, rec string, i int, by ...api.Level) api.Term {
	t.Helper()
	x, _ := e.Find(rec)
	b, f := made(x.Rules[i].Body, by, nil)
	if f != api.OK {
		t.Fatalf("%s: error %d", rec, f)
	}
	return b
}

func TestIotaOfTheSample(t *testing.T) {
	e := basis(t)
	n, l, u := con("N"), args(9), sample.P(0, 2)
	rec, lists := con("N.rec", u), con("List.rec", two, u)
	cons := func(l ...api.Term) api.Term { return apply(con("List.cons", zero), l...) }
	for what, c := range map[string]struct{ t, major, want api.Term }{
		"of 0":                  {apply(rec, l[:4]...), num(0), apply(body(t, e, "N.rec", 0, u), l[:3]...)},
		"of 1":                  {apply(rec, l[:4]...), num(1), apply(body(t, e, "N.rec", 1, u), l[0], l[1], l[2], num(0))},
		"of 3":                  {apply(rec, l[:4]...), num(3), apply(body(t, e, "N.rec", 1, u), l[0], l[1], l[2], num(2))},
		"of 0, and behind":      {apply(rec, l[:6]...), num(0), apply(body(t, e, "N.rec", 0, u), l[0], l[1], l[2], l[4], l[5])},
		"of 1, and behind":      {apply(rec, l[:5]...), num(1), apply(body(t, e, "N.rec", 1, u), l[0], l[1], l[2], num(0), l[4])},
		"of a free one":         {apply(rec, vr(5), vr(1), vr(0), vr(9)), app(con("N.succ"), vr(3)), apply(body(t, e, "N.rec", 1, u), vr(5), vr(1), vr(0), vr(3))},
		"of a stuck one":        {apply(rec, l[0], l[1], l[2], num(1)), num(0), apply(body(t, e, "N.rec", 0, u), l[:3]...)},
		"of nil":                {apply(lists, l[:5]...), app(con("List.nil", zero), n), apply(body(t, e, "List.rec", 0, two, u), l[:4]...)},
		"of cons":               {apply(lists, l[:5]...), cons(n, num(7), vr(2)), apply(body(t, e, "List.rec", 1, two, u), l[0], l[1], l[2], l[3], num(7), vr(2))},
		"of cons, and behind":   {apply(lists, l[:8]...), cons(n, num(7), vr(2)), apply(body(t, e, "List.rec", 1, two, u), l[0], l[1], l[2], l[3], num(7), vr(2), l[5], l[6], l[7])},
		"of nil at no levels":   {apply(lists, l[:5]...), app(con("List.nil"), n), apply(body(t, e, "List.rec", 0, two, u), l[:4]...)},
		"of nil at many levels": {apply(lists, l[:5]...), app(con("List.nil", two, two), n), apply(body(t, e, "List.rec", 0, two, u), l[:4]...)},
	} {
		got, f := Iota(e, c.t, c.major)
		tells(t, what, got, f, c.want, api.OK)
	}
}

// odd: a recursor whose numbers are all unlike, with rules of constructors, of one of them several, and of what is no constructor.
func odd(t *testing.T) *env.Env {
	t.Helper()
	ctor := func(name, of string, fixed, fields int) api.Info {
		return api.Info{Kind: api.IsCtor, Name: name, Type: srt(zero), Of: of, Fixed: fixed, Fields: fields}
	}
	levels := func(i int) api.Term { return con("r", sample.P(0, i), sample.P(1, i)) }
	return filled(t,
		recursorOf(1, 2, 3, 4,
			rule("c", 2, levels(1)),
			rule("twice", 1, levels(2)),
			rule("axiom", 0, levels(3)),
			rule("r", 0, levels(4)),
			rule("twice", 3, levels(5)),
			rule("twice", 1, levels(6)),
			rule("none", 0, levels(7)),
			rule("bare", 0, srt(zero)),
			rule("def", 0, levels(8)),
			rule("type", 0, levels(9)),
			rule("other", 2, levels(10))),
		ctor("c", "X", 5, 2),
		ctor("twice", "X", 1, 3),
		ctor("bare", "X", 0, 9), // its own Fields say nothing here
		ctor("other", "Y", 2, 2),
		ctor("unruled", "X", 5, 2),
		axiom(0, "axiom", srt(zero)),
		theorem(0, "theorem", srt(zero), srt(zero)),
		def(0, "def", srt(zero), con("bare")),
		api.Info{Kind: api.IsType, Name: "type", Type: srt(zero)},
	)
}

func TestIotaTakesWhatItMust(t *testing.T) {
	e := odd(t)
	at := func(i int) api.Term { return con("r", sample.Number(i), sample.P(3, 2+i)) } // the body i at the levels of r
	r, l := con("r", zero, sample.P(3, 2)), args(20)
	m := []api.Term{vr(0), vr(1), vr(2), vr(3), vr(4), vr(5), vr(6), vr(7)}
	ahead := l[:6]
	for what, c := range map[string]struct {
		args  int
		major api.Term
		body  api.Term
		l     []api.Term
	}{
		"two fields":              {11, apply(con("c"), m[:7]...), at(1), []api.Term{vr(5), vr(6)}},
		"and arguments behind":    {13, apply(con("c"), m[:7]...), at(1), []api.Term{vr(5), vr(6), l[11], l[12]}},
		"and more":                {20, apply(con("c"), m[:7]...), at(1), append([]api.Term{vr(5), vr(6)}, l[11:]...)},
		"the first of its rules":  {12, apply(con("twice"), m[:2]...), at(2), []api.Term{vr(1), l[11]}},
		"of no arguments":         {11, con("bare"), srt(zero), nil},
		"of none, and behind":     {12, con("bare"), srt(zero), l[11:12]},
		"of levels":               {11, con("bare", two, zero), srt(zero), nil},
		"of another type's":       {11, apply(con("other"), m[:4]...), at(10), []api.Term{vr(2), vr(3)}},
		"what the fields have in": {11, apply(con("c"), append(slices.Clone(m[:6]), apply(con("c"), m...))...), at(1), []api.Term{vr(5), apply(con("c"), m...)}},
	} {
		got, f := Iota(e, apply(r, l[:c.args]...), c.major)
		tells(t, what, got, f, apply(apply(c.body, ahead...), c.l...), api.OK)
	}
}

func TestIotaWithoutARule(t *testing.T) {
	e := odd(t)
	r, l := con("r", zero, two), args(20)
	full, c := apply(r, l[:12]...), apply(con("c"), l[:7]...)
	for what, x := range map[string]struct{ t, major api.Term }{
		"one field too few":           {full, apply(con("c"), l[:6]...)},
		"one too many":                {full, apply(con("c"), l[:8]...)},
		"no fields":                   {full, con("c")},
		"as many as the fields":       {full, apply(con("c"), l[:2]...)},
		"the second rule's":           {full, apply(con("twice"), l[:4]...)},
		"fixed ones alone":            {full, apply(con("twice"), l[:1]...)},
		"bare, of one too many":       {full, app(con("bare"), l[0])},
		"as many as it has itself":    {full, apply(con("bare"), l[:9]...)},
		"a constructor without rule":  {full, apply(con("unruled"), l[:7]...)},
		"an axiom with one":           {full, con("axiom")},
		"a recursor with one":         {full, con("r", zero, two)},
		"a definition with one":       {full, con("def")},
		"a type with one":             {full, con("type")},
		"a theorem":                   {full, con("theorem")},
		"what is not there, with one": {full, con("none")},
		"what is not there":           {full, con("nowhere")},
		"a sort":                      {full, srt(zero)},
		"a variable":                  {full, vr(0)},
		"a variable, applied":         {full, apply(vr(0), l[:7]...)},
		"a lambda":                    {full, lam(c, c)},
		"a lambda, applied":           {full, app(lam(c, con("bare")), c)},
		"functions":                   {full, pi(con("bare"), con("bare"))},
		"a let":                       {full, let(c, c, c)},
		"a projection":                {full, prj("bare", 0, con("bare"))},
		"a projection, applied":       {full, apply(prj("c", 0, con("bare")), l[:7]...)},
		"t of one too few":            {apply(r, l[:10]...), c},
		"t of none":                   {r, c},
		"t of one level":              {apply(con("r", zero), l[:12]...), c},
		"t of three levels":           {apply(con("r", zero, zero, zero), l[:12]...), c},
		"t that is not there":         {apply(con("none", zero, two), l[:12]...), c},
		"t of a constructor":          {apply(con("c", zero, two), l[:12]...), c},
		"t of a variable":             {apply(vr(0), l[:12]...), c},
		"t of a projection":           {apply(prj("r", 0, r), l[:12]...), c},
		"t that is in a lambda":       {lam(r, full), c},
	} {
		got, f := Iota(e, x.t, x.major)
		tells(t, what, got, f, api.Term{}, api.ErrNone)
	}
	if _, f := Iota(e, full, c); f != api.OK {
		t.Errorf("with a rule: error %d", f)
	}
	s := basis(t)
	pairs := apply(con("Pair.mk", zero, zero), con("N"), con("N"), num(1), num(2))
	for _, x := range []api.Term{apply(con("Pair.rec", zero, zero, zero), l[:5]...), apply(con("N.rec", zero), l[:4]...)} {
		got, f := Iota(s, x, pairs)
		tells(t, "of a pair", got, f, api.Term{}, api.ErrNone)
	}
}

func TestIotaOfWhatMayNotBe(t *testing.T) {
	e := odd(t)
	r, l := con("r", zero, two), args(20)
	full, c := apply(r, l[:12]...), apply(con("c"), l[:7]...)
	for _, b := range append(sample.Bads(), api.Term{K: api.Const, S: "bare", N: 1}) {
		for _, x := range [][2]api.Term{
			{b, c}, {full, b}, {b, b}, {app(full, b), c}, {apply(r, append(slices.Clone(l[:11]), b)...), c},
			{full, apply(con("c"), append(slices.Clone(l[:6]), b)...)}, {apply(b, l[:12]...), c}, {full, apply(b, l[:7]...)},
			{vr(0), b}, {b, vr(0)}, {full, app(con("unruled"), b)}, // ahead of that there is no rule
		} {
			got, f := Iota(e, x[0], x[1])
			tells(t, "what may not be", got, f, api.Term{}, api.ErrArg)
		}
	}
	for _, x := range append(sample.Bads(), full, c, vr(0)) {
		got, f := Iota(nil, x, c)
		tells(t, "of no environment", got, f, api.Term{}, api.ErrNil)
		got, f = Iota(nil, full, x)
		tells(t, "of no environment", got, f, api.Term{}, api.ErrNil)
	}
	got, f := Iota(env.New(), full, c)
	tells(t, "of an empty one", got, f, api.Term{}, api.ErrNone)
}

// What is made grows: what just may be, and one node more.
func TestIotaOfWhatGrows(t *testing.T) {
	half := sample.OfSizeClosed(api.TopTerm/2 + 1)
	deep := sample.OfDepth(api.TopDepth-2, con("N"), func(x api.Term) api.Term { return prj("N", 0, x) })
	e := filled(t,
		axiom(0, "N", srt(zero)), axiom(0, "S", srt(zero)),
		api.Info{Kind: api.IsCtor, Name: "half", Type: con("N")},
		api.Info{Kind: api.IsCtor, Name: "deep", Type: con("N")},
		api.Info{Kind: api.IsCtor, Name: "field", Type: con("N")},
		api.Info{Kind: api.IsCtor, Name: "fields", Type: con("N"), Fixed: 1},
		recursorOf(0, 0, 1, 0, rule("half", 0, half), rule("deep", 0, deep), rule("field", 1, half), rule("fields", 1000, con("N"))),
	)
	r := con("r", zero, two)
	rest := api.TopTerm - (api.TopTerm/2 + 1) - 1 // nodes of one argument
	many := func(n int) []api.Term { return slices.Repeat([]api.Term{vr(0)}, n) }
	of := func(l ...api.Term) api.Term { return apply(r, l...) }
	fields := apply(con("fields"), many(1001)...)
	for what, c := range map[string]struct {
		t, major api.Term
		want     api.Errno
	}{
		"a minor, just":        {of(sample.OfSize(rest), vr(0)), con("half"), api.OK},
		"a minor, one more":    {of(sample.OfSize(rest+1), vr(0)), con("half"), api.ErrMany},
		"a major that is cut":  {of(sample.OfSize(rest), sample.OfSize(rest)), con("half"), api.OK},
		"behind, just":         {of(vr(0), vr(0), sample.OfSize(rest-2)), con("half"), api.OK},
		"behind, one more":     {of(vr(0), vr(0), sample.OfSize(rest-1)), con("half"), api.ErrMany},
		"a field, just":        {of(vr(0), vr(0)), app(con("field"), sample.OfSize(rest-2)), api.OK},
		"a field, one more":    {of(vr(0), vr(0)), app(con("field"), sample.OfSize(rest-1)), api.ErrMany},
		"deep, just":           {of(vr(0), vr(0), vr(0)), con("deep"), api.OK},
		"deep, one more":       {of(vr(0), vr(0), vr(0), vr(0)), con("deep"), api.ErrMany},
		"many fields":          {of(many(2)...), fields, api.OK},
		"many behind":          {of(many(api.TopDepth - 1)...), con("half"), api.ErrMany},
		"fields, and behind":   {of(many(2 + api.TopDepth - 1002)...), fields, api.OK},
		"and one more":         {of(many(2 + api.TopDepth - 1001)...), fields, api.ErrMany},
		"as many as may be":    {of(many(api.TopDepth - 1)...), fields, api.ErrMany},
		"great, without rule":  {of(sample.OfSize(rest+1), vr(0)), con("N"), api.ErrNone},
		"great, of two fields": {of(sample.OfSize(rest+1), vr(0)), apply(con("field"), vr(0), vr(0)), api.ErrNone},
	} {
		got, f := Iota(e, c.t, c.major)
		want, g := wordsOf(e).iota(c.t, c.major)
		if f != c.want || g != c.want || text(got) != text(want) || zeroTerm(got) != (f != api.OK) {
			t.Errorf("%s: error %d, the words say %d, want %d", what, f, g, c.want)
		}
	}
}

// Levels that are put in grow, too: the greatest one that may be, and one more; where there is no rule that says nothing.
func TestIotaOfLevelsThatGrow(t *testing.T) {
	e := filled(t, recursorOf(0, 0, 0, 0, rule("c", 0, srt(sample.P(1, 3))), rule("d", 1, srt(sample.P(0, 0)))),
		api.Info{Kind: api.IsCtor, Name: "c", Type: srt(zero)}, api.Info{Kind: api.IsCtor, Name: "d", Type: srt(zero)})
	for n, want := range map[int]api.Errno{api.TopLevel - 3: api.OK, api.TopLevel - 2: api.ErrMany, api.TopLevel: api.ErrMany} {
		for _, l := range []api.Level{sample.Number(n), sample.P(2, n)} {
			x := apply(con("r", l, l), vr(0), vr(1))
			got, f := Iota(e, x, con("c"))
			if f != want || zeroTerm(got) != (want != api.OK) {
				t.Errorf("at %d: error %d, %s", n, f, text(got))
			}
			got, f = Iota(e, x, app(con("d"), vr(7)))
			tells(t, "the other rule", got, f, apply(srt(l), vr(7), vr(1)), api.OK)
			got, f = Iota(e, x, app(con("c"), vr(7)))
			tells(t, "no rule", got, f, api.Term{}, api.ErrNone)
		}
	}
}
