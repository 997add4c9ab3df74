package wire

import (
	"batten/api"
	"batten/term"
)

// May: may a declaration be? (P6.1)
func May(d api.Decl) bool {
	if d.Params < 0 || d.Params > api.MaxParams {
		return false
	}
	switch d.Kind {
	case api.Axiom:
		return named(d.Name, d.Type) && noTerm(d.Value) && noBlock(&d)
	case api.Def, api.Theorem:
		return named(d.Name, d.Type) && mayTerm(d.Value) && noBlock(&d)
	case api.Block:
		return d.Name == "" && noTerm(d.Type) && noTerm(d.Value) && mayBlock(&d)
	}
	return false
}

// noBlock: are the fields of a block zero?
func noBlock(d *api.Decl) bool { return d.Fixed == 0 && len(d.Inds) == 0 }

// mayBlock: are the fields of a block such as may be?
func mayBlock(d *api.Decl) bool {
	if d.Fixed < 0 || d.Fixed > api.MaxArgs || len(d.Inds) == 0 || len(d.Inds) > api.MaxTypes {
		return false
	}
	for _, x := range d.Inds {
		if !named(x.Name, x.Type) || len(x.Ctors) > api.MaxCtors {
			return false
		}
		for _, c := range x.Ctors {
			if !named(c.Name, c.Type) {
				return false
			}
		}
	}
	return true
}

// named: may a name, and the type of what it names, be declared?
func named(s string, t api.Term) bool { return term.Name(s) && mayTerm(t) }

// noTerm: is it a zero term?
func noTerm(t api.Term) bool {
	return t.K == 0 && t.N == 0 && t.S == "" && len(t.Ls) == 0 && len(t.T) == 0
}

// mayTerm: may a term be declared? Its size is asked first, so that no more than that is gone through.
func mayTerm(t api.Term) bool {
	n := term.Size(t)
	return n > 0 && n <= api.MaxTerm && within(&t, 1)
}

// within: are the depth of a term that may be, with so many nodes around it and itself, and the numbers of its levels such as may be declared?
func within(t *api.Term, deep int) bool {
	if deep > api.MaxDepth {
		return false
	}
	for _, l := range t.Ls {
		if !mayLevel(l) {
			return false
		}
	}
	for i := range t.T {
		if !within(&t.T[i], deep+1) {
			return false
		}
	}
	return true
}

// mayLevel: may a level that may be be declared?
func mayLevel(l api.Level) bool {
	for _, n := range l.P {
		if n > api.MaxLevel {
			return false
		}
	}
	return l.C <= api.MaxLevel
}
