package subst

import (
	"math/big"
	"testing"

	"batten/api"
	"batten/level"
	"batten/sample"
	"batten/term"
)

const far = sample.Far

var (
	zero, two, param, great = sample.Zero, sample.Two, sample.Param, sample.Great

	srt, vr, con, prj = sample.Sort, sample.Var, sample.Const, sample.Proj
	app, lam, pi, let = sample.App, sample.Lam, sample.Pi, sample.Let
	text, some        = sample.Text, sample.Some
)

// marked is a term, each free variable of which has its own number wherever it stands, so that nothing is ever lifted.
type marked struct {
	node api.Term // without its terms
	free bool     // node.N is the number of a free variable
	t    []marked
}

// bindsAt: does a node bind a variable in the i-th one of its terms?
func bindsAt(k uint8, i int) int {
	if k == api.Let && i == 2 || (k == api.Lam || k == api.Pi) && i == 1 {
		return 1
	}
	return 0
}

func mark(t api.Term, under int) marked {
	m := marked{node: t}
	m.node.T = nil
	if t.K == api.Var && t.N >= under {
		m.free, m.node.N = true, t.N-under
	}
	for i, x := range t.T {
		m.t = append(m.t, mark(x, under+bindsAt(t.K, i)))
	}
	return m
}

func (m marked) term(under int) api.Term {
	t := m.node
	if m.free {
		t.N += under
	}
	for i, x := range m.t {
		t.T = append(t.T, x.term(under+bindsAt(t.K, i)))
	}
	return t
}

// with what is told in the place of each free variable.
func (m marked) with(to func(n int) marked) marked {
	if m.free {
		return to(m.node.N)
	}
	t := m.t
	m.t = nil
	for _, x := range t {
		m.t = append(m.t, x.with(to))
	}
	return m
}

// wordsAnswer: what was made, if it may be.
func wordsAnswer(m marked) (api.Term, api.Errno) {
	if t := m.term(0); term.May(t) {
		return t, api.OK
	}
	return api.Term{}, api.ErrMany
}

// wordsLift: what the chapter's words say of Lift, of a term that ends, in numbers without an end.
func wordsLift(t api.Term, from, by int) (api.Term, api.Errno) {
	if !term.May(t) || from < 0 {
		return api.Term{}, api.ErrArg
	}
	least := big.NewInt(int64(from))
	last := new(big.Int).Sub(least, big.NewInt(int64(by)))
	last.Sub(last, big.NewInt(1))
	e := api.OK
	m := mark(t, 0).with(func(n int) marked {
		v := big.NewInt(int64(n))
		if v.Cmp(least) < 0 {
			return mark(vr(n), 0)
		}
		if by < 0 && v.Cmp(last) <= 0 {
			e = api.ErrVar
			return mark(vr(0), 0)
		}
		v.Add(v, big.NewInt(int64(by)))
		if v.Cmp(big.NewInt(far)) > 0 {
			return mark(vr(far+1), 0)
		}
		return mark(vr(int(v.Int64())), 0)
	})
	if e != api.OK {
		return api.Term{}, e
	}
	return wordsAnswer(m)
}

// wordsInst: what they say of Inst, of terms that end, of which no far too great one comes.
func wordsInst(t api.Term, l ...api.Term) (api.Term, api.Errno) {
	for _, x := range append([]api.Term{t}, l...) {
		if !term.May(x) {
			return api.Term{}, api.ErrArg
		}
	}
	n := len(l)
	return wordsAnswer(mark(t, 0).with(func(i int) marked {
		if i < n {
			return mark(l[n-1-i], 0)
		}
		return mark(vr(i-n), 0)
	}))
}

// wordsClose: what they say of Close, of a term that ends.
func wordsClose(t api.Term, k int) (api.Term, api.Errno) {
	if !term.May(t) || k < 0 {
		return api.Term{}, api.ErrArg
	}
	return wordsAnswer(mark(t, 0).with(func(n int) marked {
		if n == k {
			return mark(vr(0), 0)
		}
		if n < k {
			return mark(vr(n+1), 0)
		}
		return mark(vr(n), 0)
	}))
}

// wordsLevels: what they say of Levels, of a term that ends.
func wordsLevels(t api.Term, by []api.Level) (api.Term, api.Errno) {
	if !term.May(t) {
		return api.Term{}, api.ErrArg
	}
	first := api.OK
	var visit func(t api.Term) api.Term
	visit = func(t api.Term) api.Term {
		ls, ts := t.Ls, t.T
		t.Ls, t.T = nil, nil
		for _, l := range ls {
			in, e := level.Inst(l, by)
			if first == api.OK {
				first = e
			}
			t.Ls = append(t.Ls, in)
		}
		for _, x := range ts {
			t.T = append(t.T, visit(x))
		}
		return t
	}
	out := visit(t)
	if first != api.OK {
		return api.Term{}, first
	}
	return out, api.OK
}

// answered is what a call answers.
type answered struct {
	t api.Term
	e api.Errno
}

func of(t api.Term, e api.Errno) answered { return answered{t, e} }

func fails(e api.Errno) answered { return answered{e: e} }

func want(t *testing.T, what string, got, want answered) {
	t.Helper()
	if got.e == want.e && text(got.t) == text(want.t) {
		return
	}
	if n := term.Size(got.t) + term.Size(want.t); n > 100 {
		t.Errorf("%s: error %d, %d nodes, want error %d, %d nodes", what, got.e, term.Size(got.t), want.e, term.Size(want.t))
		return
	}
	t.Errorf("%s: error %d, %s, want error %d, %s", what, got.e, text(got.t), want.e, text(want.t))
}

// wantFails is want of an error, where what comes instead may have no end.
func wantFails(t *testing.T, what string, got answered, e api.Errno) {
	t.Helper()
	if got.e != e || !sample.IsZero(got.t) {
		t.Errorf("%s: error %d, want %d, with a zero term: %v", what, got.e, e, sample.IsZero(got.t))
	}
}

// filled: with another term in the place of all variables.
func filled(t, by api.Term) api.Term {
	if t.K == api.Var {
		return by
	}
	l := t.T
	t.T = nil
	for _, x := range l {
		t.T = append(t.T, filled(x, by))
	}
	return t
}

// inward: a term of which n nodes stand in one another by the i-th step, and the free variable v innermost.
func inward(n, i, v int) api.Term {
	step := sample.Steps()[i]
	if x := step(con("A")); x.T[len(x.T)-1].K == api.Const && bindsAt(x.K, len(x.T)-1) == 1 {
		v += n - 1
	}
	return sample.OfDepth(n, vr(v), step)
}
