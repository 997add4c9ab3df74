package wire

import (
	"batten/api"
	"batten/arena"
	"batten/octet"
)

// entries of a table, as bytes.
type entries struct {
	b []byte
	n int // how many
}

// number puts a number behind.
func (s *entries) number(n int) { s.b = append(s.b, octet.Put(nil, uint64(n))...) }

// index: entries, each of which stands there once, and their places.
type index[E comparable] struct {
	entries
	places map[E]int
}

// place of what stands there once; if it is not there yet, it is put behind.
func place[E comparable](t *index[E], x E, put func(s *entries, x E)) int {
	if n, is := t.places[x]; is {
		return n
	}
	n := t.n
	t.places[x] = n
	put(&t.entries, x)
	t.n++
	return n
}

// putName that may be.
func putName(s *entries, name string) {
	b, _ := octet.PutName(nil, name)
	s.b = append(s.b, b...)
}

// putLevel that may be declared.
func putLevel(s *entries, l api.Level) {
	s.number(l.C)
	for _, n := range l.P {
		s.number(n + 1)
	}
}

// writer of declarations that may be: the tables, as far as they are written.
type writer struct {
	names  index[string]
	levels index[api.Level]
	terms  entries
	decls  entries
	places *arena.Arena // of the terms: an arena numbers them as they are to stand
}

func newWriter() *writer {
	return &writer{
		names:  index[string]{places: map[string]int{}},
		levels: index[api.Level]{places: map[api.Level]int{}},
		places: arena.New(),
	}
}

// full: has a table more entries than it may?
func (w *writer) full() bool {
	return w.names.n > maxNames || w.levels.n > maxLevels || w.terms.n > maxTerms
}

// decl puts a declaration behind.
func (w *writer) decl(d *api.Decl) {
	w.decls.b = append(w.decls.b, d.Kind)
	w.decls.number(d.Params)
	switch d.Kind {
	case api.Axiom:
		w.named(d.Name, d.Type)
	case api.Def, api.Theorem:
		w.named(d.Name, d.Type)
		w.term(d.Value)
	case api.Block:
		w.block(d)
	}
	w.decls.n++
}

// block: what a declaration of one has behind its Params.
func (w *writer) block(d *api.Decl) {
	w.decls.number(d.Fixed)
	w.decls.number(len(d.Inds))
	for _, x := range d.Inds {
		w.named(x.Name, x.Type)
		w.decls.number(len(x.Ctors))
		for _, c := range x.Ctors {
			w.named(c.Name, c.Type)
		}
	}
}

// named: a name, and the type of what it names.
func (w *writer) named(s string, t api.Term) {
	w.decls.number(w.name(s))
	w.term(t)
}

// term: of a declaration. The arena has room for it: while no table is too full, one declaration's terms are far fewer than what is left.
func (w *writer) term(t api.Term) {
	n, _ := w.places.Put(t)
	w.node(&t, n)
	w.decls.number(n)
}

// node puts a term of that place behind, and what it is made of ahead of it, if they are not there yet.
func (w *writer) node(t *api.Term, n int) {
	if n < w.terms.n {
		return
	}
	parts, _ := w.places.Kids(n)
	for i, p := range parts {
		w.node(&t.T[i], p)
	}
	s := &w.terms
	s.b = append(s.b, t.K)
	switch t.K {
	case api.Sort:
		s.number(w.level(t.Ls[0]))
	case api.Var:
		s.number(t.N)
	case api.Const:
		s.number(w.name(t.S))
		s.number(len(t.Ls))
		for _, l := range t.Ls {
			s.number(w.level(l))
		}
	case api.Proj:
		s.number(w.name(t.S))
		s.number(t.N)
	}
	for _, p := range parts {
		s.number(p)
	}
	s.n++
}

func (w *writer) name(s string) int { return place(&w.names, s, putName) }

func (w *writer) level(l api.Level) int { return place(&w.levels, l, putLevel) }

// file: the bytes of all.
func (w *writer) file() []byte {
	b := []byte(letters)
	for _, t := range []entries{w.names.entries, w.levels.entries, w.terms, w.decls} {
		b = append(octet.Put(b, uint64(t.n)), t.b...)
	}
	return b
}
