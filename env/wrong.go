package env

import (
	"slices"

	"batten/api"
	"batten/level"
	"batten/subst"
	"batten/term"
)

// search goes through a list, in order, and ends at the first error that wrong tells of one of it: that.
func search[T any](l []T, wrong func(i int, x T) api.Errno) api.Errno {
	for i, x := range l {
		if f := wrong(i, x); f != api.OK {
			return f
		}
	}
	return api.OK
}

// wrong: the first error of infos that are to be added.
func (e *Env) wrong(l []api.Info) api.Errno {
	places := placesOf(l)
	return search(l, func(i int, x api.Info) api.Errno {
		switch {
		case !term.Name(x.Name) || e.at(x.Name) != nil || places[x.Name] < i:
			return api.ErrName
		case !isKind(x.Kind) || !numbersMay(&x):
			return api.ErrArg
		case x.Params < 0 || x.Params > api.MaxParams:
			return api.ErrLevel
		}
		known := func(s string) bool {
			at, is := places[s]
			return e.at(s) != nil || is && (at < i || !hasValue(&x))
		}
		return wrongTerms(&x, known)
	})
}

// wrongTerms: the first error of the terms of an info whose Params may be. All must be closed ahead of what they name.
func wrongTerms(x *api.Info, known func(name string) bool) api.Errno {
	terms, own := termsOf(x), params(x.Params)
	f := search(terms, func(_ int, t api.Term) api.Errno { return open(t, own) })
	if f != api.OK {
		return f
	}
	return search(terms, func(_ int, t api.Term) api.Errno {
		return search(term.Names(t), func(_ int, s string) api.Errno {
			if !known(s) {
				return api.ErrNone
			}
			return api.OK
		})
	})
}

// open: why a term is not closed over so many levels as there are own ones. With each in its own place only those that are not below that fail.
func open(t api.Term, own []api.Level) api.Errno {
	if !term.May(t) || term.Free(t) > 0 {
		return api.ErrVar
	}
	_, f := subst.Levels(t, own)
	return f
}

// placesOf: where names of a list stand first.
func placesOf(l []api.Info) map[string]int {
	places := map[string]int{}
	for i := range l {
		if _, is := places[l[i].Name]; !is {
			places[l[i].Name] = i
		}
	}
	return places
}

// termsOf: the terms that an info has by its kind, in the order in which they are looked at.
func termsOf(x *api.Info) []api.Term {
	l := []api.Term{x.Type}
	if hasValue(x) {
		l = append(l, x.Value)
	}
	for _, r := range x.Rules {
		l = append(l, r.Body)
	}
	return l
}

// hasValue: is it a definition or a theorem?
func hasValue(x *api.Info) bool { return x.Kind == api.IsDef || x.Kind == api.IsTheorem }

func isKind(k uint8) bool { return k >= api.IsAxiom && k <= api.IsRec }

// numbersMay: may all numbers be that say how much an info has?
func numbersMay(x *api.Info) bool {
	l := []int{x.Fixed, x.Index, x.No, x.Fields, x.Motives, x.Minors, x.Ctors}
	for _, r := range x.Rules {
		l = append(l, r.Fields)
	}
	return !slices.ContainsFunc(l, func(n int) bool { return n < 0 || n > maxNumber })
}

// params: the first n parameters, as levels.
func params(n int) []api.Level {
	l := make([]api.Level, n)
	for i := range l {
		l[i], _ = level.Param(i) // n is no more than there are
	}
	return l
}
