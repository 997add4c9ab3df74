package term

import (
	"slices"
	"strings"

	"batten/api"
	"batten/sample"
)

const far = sample.Far

const (
	name32 = sample.Name32
	name33 = sample.Name33
)

var (
	zero, two, param, great = sample.Zero, sample.Two, sample.Param, sample.Great
	badLevels               = sample.BadLevels()
	steps                   = sample.Steps()
)

var (
	srt, vr, con, prj, node = sample.Sort, sample.Var, sample.Const, sample.Proj, sample.Node
	app, lam, pi, let       = sample.App, sample.Lam, sample.Pi, sample.Let
	text, clone, zeroTerm   = sample.Text, sample.Clone, sample.IsZero
	ofSize, ofDepth         = sample.OfSize, sample.OfDepth
	leaves, small, bads     = sample.Leaves, sample.Small, sample.Bads
	grown                   = sample.Grown
)

// wordsName: is it one that the chapter's words say?
func wordsName(s string) bool {
	const may = "abcdefghijklmnopqrstuvwxyzABCDEFGHIJKLMNOPQRSTUVWXYZ0123456789_.'"
	return s != "" && len(s) <= 32 && strings.Trim(s, may) == "" && !strings.ContainsFunc(s, func(r rune) bool { return !strings.ContainsRune(may, r) })
}

// wordsLevel: is it one that the words of the chapter of levels say?
func wordsLevel(l api.Level) bool {
	for _, n := range l.P {
		if n < -1 || n > api.TopLevel || l.C != 0 && n >= l.C {
			return false
		}
	}
	return l.C >= 0 && l.C <= api.TopLevel
}

// wordsNode: has it just the fields of the chapter's table?
func wordsNode(t api.Term) bool {
	noN, noS, noLs, noT := t.N == 0, t.S == "", len(t.Ls) == 0, len(t.T) == 0
	for _, l := range t.Ls {
		if !wordsLevel(l) {
			return false
		}
	}
	switch t.K {
	case api.Sort:
		return noN && noS && len(t.Ls) == 1 && noT
	case api.Var:
		return t.N >= 0 && t.N <= 1<<20 && noS && noLs && noT
	case api.Const:
		return noN && wordsName(t.S) && len(t.Ls) <= 4 && noT
	case api.App, api.Lam, api.Pi:
		return noN && noS && noLs && len(t.T) == 2
	case api.Let:
		return noN && noS && noLs && len(t.T) == 3
	case api.Proj:
		return t.N >= 0 && t.N <= 11 && wordsName(t.S) && noLs && len(t.T) == 1
	}
	return false
}

// words is what the chapter's words say of a term that ends: of one that may not be, nothing.
type words struct {
	may   bool
	size  int
	deep  int
	frees []int // rising, each once
	names []string
}

// wordsOf a term that stands in itself nowhere, and is not much too great.
func wordsOf(t api.Term) words {
	w := words{may: wordsNode(t), size: 1}
	if t.S != "" {
		w.names = []string{t.S}
	}
	if t.K == api.Var {
		w.frees = []int{t.N}
	}
	for i, x := range t.T {
		in := wordsOf(x)
		w.may = w.may && in.may
		w.size += in.size
		w.deep = max(w.deep, in.deep)
		w.names = append(w.names, in.names...)
		if t.K == api.Let && i == 2 || (t.K == api.Lam || t.K == api.Pi) && i == 1 {
			for _, k := range in.frees {
				if k > 0 {
					w.frees = append(w.frees, k-1)
				}
			}
		} else {
			w.frees = append(w.frees, in.frees...)
		}
	}
	w.deep++
	if !w.may || w.size > 1<<16 || w.deep > 1<<12 {
		return words{size: w.size, deep: w.deep}
	}
	slices.Sort(w.frees)
	slices.Sort(w.names)
	w.frees, w.names = slices.Compact(w.frees), slices.Compact(w.names)
	return w
}
