package term

import (
	"batten/api"
	"batten/level"
)

// kind is what is asked of the fields of a node.
type kind struct {
	least, most int  // levels, at least and at most
	named       bool // its S is a name
	top         int  // its N is at most that
	terms       int
	binds       bool // it binds a variable in the last one of its terms
}

// kindOf: what a kind of terms asks for; of what is no kind false.
func kindOf(k uint8) (a kind, is bool) {
	switch k {
	case api.Sort:
		a.least, a.most = 1, 1
	case api.Var:
		a.top = farVar
	case api.Const:
		a.named, a.most = true, api.MaxParams
	case api.Proj:
		a.named, a.top, a.terms = true, api.MaxArgs-1, 1
	case api.Let:
		a.terms++
		fallthrough
	case api.Lam, api.Pi:
		a.binds = true
		fallthrough
	case api.App:
		a.terms += 2
	default:
		return kind{}, false
	}
	return a, true
}

// fits: has a node the fields of its kind, and no others? Its terms are only counted.
func fits(x *api.Term) bool {
	a, is := kindOf(x.K)
	if !is || x.N < 0 || x.N > a.top || len(x.T) != a.terms || len(x.Ls) < a.least || len(x.Ls) > a.most {
		return false
	}
	if x.S != "" && !a.named || a.named && !Name(x.S) {
		return false
	}
	for _, l := range x.Ls {
		if !level.May(l) {
			return false
		}
	}
	return true
}

// walk goes through a term, each node ahead of its terms, till see says no, and tells whether it never did: deep is how many nodes stand around the node, itself counted; under, how many binders.
// See is asked ahead of what stands in the node, so that a see that counts ends the walk in a tree that has no end, too.
func walk(t *api.Term, see func(x *api.Term, deep, under int) bool) bool {
	var visit func(x *api.Term, deep, under int) bool
	visit = func(x *api.Term, deep, under int) bool {
		if !see(x, deep, under) {
			return false
		}
		a, _ := kindOf(x.K)
		for i := range x.T {
			if a.binds && i == a.terms-1 {
				under++
			}
			if !visit(&x.T[i], deep+1, under) {
				return false
			}
		}
		return true
	}
	return visit(t, 1, 0)
}

// vars goes through the numbers of the free variables of a term that may be, as often as they stand there, and ends where see says no.
func vars(t api.Term, see func(k int) bool) {
	if !May(t) {
		return
	}
	walk(&t, func(x *api.Term, _, under int) bool {
		return x.K != api.Var || x.N < under || see(x.N-under)
	})
}
