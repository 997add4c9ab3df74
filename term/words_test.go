package term

import (
	"math"
	"slices"
	"strconv"
	"strings"

	"batten/api"
)

const far = 1 << 20 // the greatest number of a Var

var (
	name32 = strings.Repeat("aZ9_.'xy", 4)
	name33 = name32 + "z"
)

// Levels that may be.
var (
	zero  = api.Level{P: [api.MaxParams]int{-1, -1, -1, -1}}
	two   = api.Level{C: 2, P: [api.MaxParams]int{-1, -1, -1, -1}}
	param = api.Level{P: [api.MaxParams]int{-1, 3, -1, -1}}
	great = api.Level{P: [api.MaxParams]int{api.TopLevel, 0, -1, 7}}
)

// Levels that may not be: C is too great, below 0, not in the one form; a P is too great, or below -1.
var badLevels = []api.Level{
	{C: api.TopLevel + 1, P: zero.P},
	{C: -1, P: zero.P},
	{C: 3, P: param.P},
	{P: [api.MaxParams]int{-1, -1, -1, api.TopLevel + 1}},
	{P: [api.MaxParams]int{-2, -1, -1, -1}},
}

func srt(l api.Level) api.Term { return api.Term{K: api.Sort, Ls: []api.Level{l}} }

func vr(n int) api.Term { return api.Term{K: api.Var, N: n} }

func con(s string, l ...api.Level) api.Term { return api.Term{K: api.Const, S: s, Ls: l} }

func prj(s string, n int, t api.Term) api.Term {
	return api.Term{K: api.Proj, S: s, N: n, T: []api.Term{t}}
}

func node(k uint8, l ...api.Term) api.Term { return api.Term{K: k, T: l} }

func app(f, a api.Term) api.Term { return node(api.App, f, a) }

func lam(d, b api.Term) api.Term { return node(api.Lam, d, b) }

func pi(d, b api.Term) api.Term { return node(api.Pi, d, b) }

func let(d, v, b api.Term) api.Term { return node(api.Let, d, v, b) }

// zeroTerm: is it a zero term?
func zeroTerm(t api.Term) bool {
	return t.K == 0 && t.N == 0 && t.S == "" && len(t.Ls) == 0 && len(t.T) == 0
}

// wordsName: is it one that the chapter's words say?
func wordsName(s string) bool {
	const may = "abcdefghijklmnopqrstuvwxyzABCDEFGHIJKLMNOPQRSTUVWXYZ0123456789_.'"
	return s != "" && len(s) <= 32 && strings.Trim(s, may) == "" && !strings.ContainsFunc(s, func(r rune) bool { return !strings.ContainsRune(may, r) })
}

// wordsLevel: is it one that the words of the chapter of levels say?
func wordsLevel(l api.Level) bool {
	for _, n := range l.P {
		if n < -1 || n > api.TopLevel || l.C != 0 && n >= l.C {
			return false
		}
	}
	return l.C >= 0 && l.C <= api.TopLevel
}

// wordsNode: has it just the fields of the chapter's table?
func wordsNode(t api.Term) bool {
	noN, noS, noLs, noT := t.N == 0, t.S == "", len(t.Ls) == 0, len(t.T) == 0
	for _, l := range t.Ls {
		if !wordsLevel(l) {
			return false
		}
	}
	switch t.K {
	case api.Sort:
		return noN && noS && len(t.Ls) == 1 && noT
	case api.Var:
		return t.N >= 0 && t.N <= 1<<20 && noS && noLs && noT
	case api.Const:
		return noN && wordsName(t.S) && len(t.Ls) <= 4 && noT
	case api.App, api.Lam, api.Pi:
		return noN && noS && noLs && len(t.T) == 2
	case api.Let:
		return noN && noS && noLs && len(t.T) == 3
	case api.Proj:
		return t.N >= 0 && t.N <= 11 && wordsName(t.S) && noLs && len(t.T) == 1
	}
	return false
}

// words is what the chapter's words say of a term that ends: of one that may not be, nothing.
type words struct {
	may   bool
	size  int
	deep  int
	frees []int // rising, each once
	names []string
}

// wordsOf a term that stands in itself nowhere, and is not much too great.
func wordsOf(t api.Term) words {
	w := words{may: wordsNode(t), size: 1}
	if t.S != "" {
		w.names = []string{t.S}
	}
	if t.K == api.Var {
		w.frees = []int{t.N}
	}
	for i, x := range t.T {
		in := wordsOf(x)
		w.may = w.may && in.may
		w.size += in.size
		w.deep = max(w.deep, in.deep)
		w.names = append(w.names, in.names...)
		if t.K == api.Let && i == 2 || (t.K == api.Lam || t.K == api.Pi) && i == 1 {
			for _, k := range in.frees {
				if k > 0 {
					w.frees = append(w.frees, k-1)
				}
			}
		} else {
			w.frees = append(w.frees, in.frees...)
		}
	}
	w.deep++
	if !w.may || w.size > 1<<16 || w.deep > 1<<12 {
		return words{size: w.size, deep: w.deep}
	}
	slices.Sort(w.frees)
	slices.Sort(w.names)
	w.frees, w.names = slices.Compact(w.frees), slices.Compact(w.names)
	return w
}

// text tells a term apart from all others, nil lists as empty ones.
func text(t api.Term) string {
	b := strconv.Itoa(int(t.K)) + " " + strconv.Itoa(t.N) + " " + strconv.Quote(t.S) + " ["
	for _, l := range t.Ls {
		b += strconv.Itoa(l.C)
		for _, n := range l.P {
			b += "," + strconv.Itoa(n)
		}
		b += ";"
	}
	b += "]("
	for _, x := range t.T {
		b += text(x)
	}
	return b + ")"
}

// clone: the same tree, of which nothing is shared.
func clone(t api.Term) api.Term {
	t.Ls = slices.Clone(t.Ls)
	t.T = slices.Clone(t.T)
	for i, x := range t.T {
		t.T[i] = clone(x)
	}
	return t
}

// ofSize: a term of n nodes, few of which stand in one another; of these the same ones are shared.
func ofSize(n int) api.Term {
	made := map[int]api.Term{1: vr(0)}
	var of func(n int) api.Term
	of = func(n int) api.Term {
		if t, is := made[n]; is {
			return t
		}
		var t api.Term
		if n == 2 {
			t = prj("S", 0, of(1))
		} else {
			t = app(of((n-1)/2), of(n-1-(n-1)/2))
		}
		made[n] = t
		return t
	}
	return of(n)
}

// steps: each way in which a node stands in another one.
var steps = []func(api.Term) api.Term{
	func(t api.Term) api.Term { return app(t, vr(0)) },
	func(t api.Term) api.Term { return app(vr(0), t) },
	func(t api.Term) api.Term { return lam(t, vr(0)) },
	func(t api.Term) api.Term { return lam(vr(0), t) },
	func(t api.Term) api.Term { return pi(t, vr(0)) },
	func(t api.Term) api.Term { return pi(vr(0), t) },
	func(t api.Term) api.Term { return let(t, vr(0), vr(0)) },
	func(t api.Term) api.Term { return let(vr(0), t, vr(0)) },
	func(t api.Term) api.Term { return let(vr(0), vr(0), t) },
	func(t api.Term) api.Term { return prj("S", 0, t) },
}

// ofDepth: a term of which n nodes stand in one another, all in this way.
func ofDepth(n int, in api.Term, step func(api.Term) api.Term) api.Term {
	for range n - 1 {
		in = step(in)
	}
	return in
}

// leaves that may be, with those numbers of fields that are allowed at most.
func leaves() []api.Term {
	return []api.Term{
		srt(zero), srt(two), srt(great),
		vr(0), vr(1), vr(2), vr(far),
		con("A"), con("B.b'"), con("A", zero), con("A", zero, two), con("A", two, zero),
		con(name32, zero, param, great, two),
	}
}

// small: terms that may be, of all kinds, in which three nodes or fewer stand in one another.
func small() []api.Term {
	some := []api.Term{srt(zero), vr(0), vr(1), vr(2), con("A"), con("B", param)}
	out := leaves()
	grow := func(l []api.Term) []api.Term {
		var out []api.Term
		for _, x := range l {
			out = append(out, prj("P", 0, x), prj("A", 1, x))
			for _, y := range l {
				out = append(out, app(x, y), lam(x, y), pi(x, y))
				for _, z := range some[:4] {
					out = append(out, let(x, y, z), let(z, x, y))
				}
			}
		}
		return out
	}
	once := grow(some)
	few := slices.Clone(some[:3])
	for i := 0; i < len(once); i += 13 {
		few = append(few, once[i])
	}
	return append(append(out, once...), grow(few)...)
}

// endless: terms that stand in themselves.
func endless() []api.Term {
	var out []api.Term
	for _, k := range []uint8{api.App, api.Lam, api.Pi, api.Let, api.Proj} {
		for own := range 3 {
			t := api.Term{K: k, T: []api.Term{vr(0), vr(0), vr(0)}}
			switch k {
			case api.Proj:
				t.S, t.T = "S", t.T[:1]
			case api.Let:
			default:
				t.T = t.T[:2]
			}
			if own < len(t.T) {
				t.T[own] = t
				out = append(out, t)
			}
		}
		all := out[len(out)-1]
		for i := range all.T {
			all.T[i] = all
		}
	}
	return out
}

// bads: terms that may not be.
func bads() []api.Term {
	out := endless()
	for _, l := range badLevels {
		out = append(out, srt(l), con("A", l), con("A", zero, zero, zero, l), app(vr(0), srt(l)))
	}
	for _, n := range []int{-1, math.MinInt, far + 1, math.MaxInt} {
		out = append(out, vr(n), lam(vr(0), vr(n)), prj("S", n, vr(0)))
	}
	for _, s := range []string{"", name33, "a-b", "a b", "\x00", "n\u00e4me", strings.Repeat("a", 1<<20)} {
		out = append(out, con(s), prj(s, 0, vr(0)), pi(con(s), vr(0)))
	}
	double := vr(0)
	for range 200 {
		double = app(double, double)
	}
	return append(out,
		api.Term{},
		api.Term{K: 9},
		api.Term{K: 255, T: []api.Term{vr(0)}},
		api.Term{K: api.Sort},
		api.Term{K: api.Sort, Ls: []api.Level{zero, zero}},
		con("A", zero, zero, zero, zero, zero),
		con("A", make([]api.Level, 1<<16)...),
		prj("S", api.MaxArgs, vr(0)),
		node(api.App), node(api.App, vr(0)), node(api.App, vr(0), vr(0), vr(0)),
		node(api.Lam, vr(0)), node(api.Pi, vr(0), vr(0), vr(0)),
		node(api.Let, vr(0), vr(0)), node(api.Let, vr(0), vr(0), vr(0), vr(0)),
		node(api.Let, make([]api.Term, 1<<16)...),
		app(vr(0), api.Term{}), let(vr(0), vr(0), lam(api.Term{}, vr(0))),
		ofSize(api.TopTerm+1),
		ofDepth(api.TopDepth+1, vr(0), steps[3]),
		double,
	)
}
