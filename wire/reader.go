package wire

import (
	"math"

	"batten/api"
	"batten/level"
	"batten/octet"
)

// table of entries, told by their places.
type table[E any] []E

// reader of a file, with the tables as far as they are read. Once octet's reader in it is bad, what is read says nothing.
type reader struct {
	*octet.Reader
	names  table[string]
	levels table[api.Level]
	terms  table[counted]
	decls  table[api.Decl]
}

// counted is a term whose nodes are not to be counted again through all that it is made of.
type counted struct {
	api.Term
	size, deep int
}

// file: all of it.
func (r *reader) file() {
	for range len(letters) { // they are there
		r.Byte()
	}
	fill(r, &r.names, maxNames, r.Name)
	fill(r, &r.levels, maxLevels, r.level)
	fill(r, &r.terms, maxTerms, r.term)
	fill(r, &r.decls, api.MaxDecls, r.decl)
	if r.Left() > 0 {
		r.Fail(r.At(), api.ErrBytes)
	}
}

// good: may more be read?
func (r *reader) good() bool {
	_, e := r.Bad()
	return e == api.OK
}

// number that is at most that.
func (r *reader) number(most int) int { return int(r.Number(uint64(most))) }

// fill reads a table: how many entries it has, at most that, and these.
func fill[E any](r *reader, t *table[E], most int, read func() E) {
	for range r.number(most) {
		x := read()
		if !r.good() {
			return
		}
		*t = append(*t, x)
	}
}

// list of so many.
func list[E any](n int, read func() E) []E {
	var l []E
	for range n {
		l = append(l, read())
	}
	return l
}

// entry whose place stands next.
func entry[E any](r *reader, t table[E]) E {
	at := r.At()
	n := r.Number(math.MaxUint64)
	if n >= uint64(len(t)) {
		r.Fail(at, api.ErrNone)
		var none E
		return none
	}
	return t[n]
}

// kind of an entry, from 1 to the last one. The kind tells what stands within, so behind one that is none there is nothing that could fail ahead of it.
func (r *reader) kind(last uint8) uint8 {
	at := r.At()
	k := r.Byte()
	if k == 0 || k > last {
		r.Fail(at, api.ErrBytes)
	}
	return k
}

// level: an entry of the levels.
func (r *reader) level() api.Level {
	at := r.At()
	l := api.Level{C: r.number(api.MaxLevel)}
	for i := range l.P {
		l.P[i] = r.number(api.MaxLevel+1) - 1
	}
	if !level.May(l) {
		r.Fail(at, api.ErrLevel)
	}
	return l
}

// term: an entry of the terms.
func (r *reader) term() counted {
	at := r.At()
	t := counted{Term: api.Term{K: r.kind(api.Proj)}, size: 1, deep: 1}
	switch t.K {
	case api.Sort:
		t.Ls = list(1, r.levelOf)
	case api.Var:
		t.N = r.number(farVar)
	case api.Const:
		t.S = entry(r, r.names)
		t.Ls = list(r.number(api.MaxParams), r.levelOf)
	case api.App, api.Lam, api.Pi:
		r.parts(&t, 2)
	case api.Let:
		r.parts(&t, 3)
	case api.Proj:
		t.S = entry(r, r.names)
		t.N = r.number(api.MaxArgs - 1)
		r.parts(&t, 1)
	}
	if t.size > api.MaxTerm || t.deep > api.MaxDepth {
		r.Fail(at, api.ErrMany)
	}
	return t
}

// levelOf a node: one of the levels that are read.
func (r *reader) levelOf() api.Level { return entry(r, r.levels) }

// parts that a term is made of, so many.
func (r *reader) parts(t *counted, n int) {
	t.T = make([]api.Term, n)
	for i := range t.T {
		x := entry(r, r.terms)
		t.T[i] = x.Term
		t.size += x.size
		t.deep = max(t.deep, x.deep+1)
	}
}

// decl: an entry of the declarations.
func (r *reader) decl() api.Decl {
	at := r.At()
	d := api.Decl{Kind: r.kind(api.Block)}
	d.Params = r.number(api.MaxParams)
	switch d.Kind {
	case api.Axiom:
		d.Name, d.Type = r.named()
	case api.Def, api.Theorem:
		d.Name, d.Type = r.named()
		d.Value = entry(r, r.terms).Term
	case api.Block:
		d.Fixed = r.number(api.MaxArgs)
		d.Inds = list(r.number(api.MaxTypes), r.ind)
		if len(d.Inds) == 0 {
			r.Fail(at, api.ErrArg)
		}
	}
	return d
}

// ind: a type of a block.
func (r *reader) ind() api.Ind {
	var x api.Ind
	x.Name, x.Type = r.named()
	x.Ctors = list(r.number(api.MaxCtors), r.ctor)
	return x
}

// ctor: a constructor of a type.
func (r *reader) ctor() api.Ctor {
	var x api.Ctor
	x.Name, x.Type = r.named()
	return x
}

// named: a name, and the type of what it names.
func (r *reader) named() (string, api.Term) {
	s := entry(r, r.names)
	return s, entry(r, r.terms).Term
}
