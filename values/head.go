package values

import (
	"batten/api"
	"batten/env"
)

// Head is what a value is at its head: one of the kinds below. Each of them is read back by a method of its own.
type Head interface {
	// Read: the node of the head, under so many binders, without the terms that it is made of; and these, which wait.
	Read(under int) (node api.Term, own []Part)
}

type (
	nothing  struct{} // the head of no value
	sort     struct{ t *api.Term }
	variable struct{ n int }       // by its number outside of all binders: below 0, if one that is read back binds it
	constant struct{ t *api.Term } // of which nothing comes, whatever it is applied to
	recursor struct {              // that is applied to too few to look at one
		t *api.Term
		e *env.Env
	}
	lambda struct { // that is applied to nothing
		t  *api.Term
		in around
	}
	functions struct {
		t  *api.Term
		in around
	}
	field struct { // of what is no constructor
		t  *api.Term
		of *Value
	}
)

// tell: a head's kind, and its name.
func tell(h Head) (kind uint8, name string) {
	switch h := h.(type) {
	case sort:
		return api.Sort, ""
	case variable:
		return api.Var, ""
	case constant:
		return api.Const, h.t.S
	case recursor:
		return api.Const, h.t.S
	case lambda:
		return api.Lam, ""
	case functions:
		return api.Pi, ""
	case field:
		return api.Proj, h.t.S
	}
	return 0, ""
}
