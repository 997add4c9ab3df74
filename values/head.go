package values

import (
	"batten/api"
	"batten/env"
)

// head is what a value is at its head: one of the kinds below.
type head any

type (
	sort     struct{ t *api.Term }
	variable struct{ n int }       // a free one, by its number outside of all binders
	constant struct{ t *api.Term } // of which nothing comes, whatever it is applied to
	recursor struct {              // that is applied to too few to look at one
		t *api.Term
		e *env.Env
	}
	lambda struct { // that is applied to nothing
		t  *api.Term
		in around
	}
	functions struct {
		t  *api.Term
		in around
	}
	field struct { // of what is no constructor
		t  *api.Term
		of *Value
	}
)

// tell: a head's kind, and its name.
func tell(h head) (kind uint8, name string) {
	switch h := h.(type) {
	case sort:
		return api.Sort, ""
	case variable:
		return api.Var, ""
	case constant:
		return api.Const, h.t.S
	case recursor:
		return api.Const, h.t.S
	case lambda:
		return api.Lam, ""
	case functions:
		return api.Pi, ""
	case field:
		return api.Proj, h.t.S
	}
	return 0, ""
}
