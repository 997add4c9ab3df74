// Package sample is what the tests of the layers are made of. No layer calls it.
package sample

import (
	"slices"
	"strconv"

	"batten/api"
)

const (
	Far    = 1 << 20 // the greatest number of a Var
	Name32 = "aZ9_.'xyaZ9_.'xyaZ9_.'xyaZ9_.'xy"
	Name33 = Name32 + "z" // a name that is too long
)

// Levels that may be: Param asks for the second parameter, Great for all but the third one.
var (
	Zero  = api.Level{P: [api.MaxParams]int{-1, -1, -1, -1}}
	Two   = api.Level{C: 2, P: [api.MaxParams]int{-1, -1, -1, -1}}
	Param = api.Level{P: [api.MaxParams]int{-1, 3, -1, -1}}
	Great = api.Level{P: [api.MaxParams]int{api.TopLevel, 0, -1, 7}}
)

// BadLevels may not be: C is too great, below 0, not in the one form; a P is too great, or below -1.
func BadLevels() []api.Level {
	return []api.Level{
		{C: api.TopLevel + 1, P: Zero.P},
		{C: -1, P: Zero.P},
		{C: 3, P: Param.P},
		{P: [api.MaxParams]int{-1, -1, -1, api.TopLevel + 1}},
		{P: [api.MaxParams]int{-2, -1, -1, -1}},
	}
}

func Sort(l api.Level) api.Term { return api.Term{K: api.Sort, Ls: []api.Level{l}} }

func Var(n int) api.Term { return api.Term{K: api.Var, N: n} }

func Const(s string, l ...api.Level) api.Term { return api.Term{K: api.Const, S: s, Ls: l} }

func Proj(s string, n int, t api.Term) api.Term {
	return api.Term{K: api.Proj, S: s, N: n, T: []api.Term{t}}
}

// Node of any kind, with any number of terms.
func Node(k uint8, l ...api.Term) api.Term { return api.Term{K: k, T: l} }

func App(f, a api.Term) api.Term { return Node(api.App, f, a) }

func Lam(d, b api.Term) api.Term { return Node(api.Lam, d, b) }

func Pi(d, b api.Term) api.Term { return Node(api.Pi, d, b) }

func Let(d, v, b api.Term) api.Term { return Node(api.Let, d, v, b) }

// IsZero: is it a zero term?
func IsZero(t api.Term) bool {
	return t.K == 0 && t.N == 0 && t.S == "" && len(t.Ls) == 0 && len(t.T) == 0
}

// Text tells a term apart from all others, nil lists as empty ones.
func Text(t api.Term) string { return string(appendText(nil, t)) }

func appendText(b []byte, t api.Term) []byte {
	b = strconv.AppendInt(b, int64(t.K), 10)
	b = strconv.AppendInt(append(b, ' '), int64(t.N), 10)
	b = strconv.AppendQuote(append(b, ' '), t.S)
	b = append(b, '[')
	for _, l := range t.Ls {
		b = strconv.AppendInt(b, int64(l.C), 10)
		for _, n := range l.P {
			b = strconv.AppendInt(append(b, ','), int64(n), 10)
		}
		b = append(b, ';')
	}
	b = append(b, ']', '(')
	for _, x := range t.T {
		b = appendText(b, x)
	}
	return append(b, ')')
}

// Clone: the same tree, of which nothing is shared.
func Clone(t api.Term) api.Term {
	t.Ls = slices.Clone(t.Ls)
	t.T = slices.Clone(t.T)
	for i, x := range t.T {
		t.T[i] = Clone(x)
	}
	return t
}

// Rooms: the same tree, whose lists have room behind their ends, in which something stands. To kept comes for each of them what tells whether that still does.
func Rooms(t api.Term, kept *[]func() bool) api.Term {
	if len(t.Ls) > 0 {
		l := append(slices.Clone(t.Ls), Great)
		t.Ls = l[: len(l)-1 : len(l)]
		*kept = append(*kept, func() bool { return l[len(l)-1] == Great })
	}
	if len(t.T) > 0 {
		l := make([]api.Term, len(t.T)+1)
		for i, x := range t.T {
			l[i] = Rooms(x, kept)
		}
		l[len(t.T)] = Const("behind")
		t.T = l[: len(t.T) : len(t.T)+1]
		*kept = append(*kept, func() bool { return Text(l[len(l)-1]) == Text(Const("behind")) })
	}
	return t
}
