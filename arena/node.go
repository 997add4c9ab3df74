package arena

import (
	"slices"

	"batten/api"
)

const mostParts = 3 // terms that a node is made of

// key tells a term apart from all others, as those that it is made of are told by their numbers.
type key struct {
	name   string
	kind   uint8
	n      int
	levels int // how many of ls it has: a zero level is one, too
	ls     [api.MaxParams]api.Level
	parts  int
	part   [mostParts]int
}

// node is a term, and what is asked of it, which is not to be counted again through all that it is made of.
type node struct {
	key
	size, deep, free int
}

// keyOf: of a term that may be, the parts of which have these numbers.
func keyOf(t *api.Term, part [mostParts]int) key {
	k := key{name: t.S, kind: t.K, n: t.N, levels: len(t.Ls), parts: len(t.T), part: part}
	copy(k.ls[:], t.Ls)
	return k
}

// kids: the numbers of the parts, in the node's own memory.
func (x *node) kids() []int {
	if x.parts == 0 {
		return nil
	}
	return x.part[:x.parts]
}

// binds: does a node bind a variable in the last one of its parts?
func binds(kind uint8) bool { return kind == api.Lam || kind == api.Pi || kind == api.Let }

// number of a term that may be. What is missing is handed on, parts ahead of what is made of them, for the number that it gets; where it gets none, the term has none.
func (a *Arena) number(t *api.Term, missing func(key) (int, bool)) (int, bool) {
	var part [mostParts]int
	for i := range t.T {
		n, is := a.number(&t.T[i], missing)
		if !is {
			return 0, false
		}
		part[i] = n
	}
	k := keyOf(t, part)
	if n, is := a.places[k]; is {
		return n, true
	}
	return missing(k)
}

// absent: what is missing gets no number.
func absent(key) (int, bool) { return 0, false }

// add gives what is missing the next number, while there is one.
func (a *Arena) add(k key) (int, bool) {
	n := len(a.nodes)
	if n >= Most {
		return 0, false
	}
	if a.places == nil {
		a.places = map[key]int{}
	}
	a.places[k] = n
	a.nodes = append(a.nodes, a.counted(k))
	return n, true
}

// counted: the node of a key, the parts of which are there.
func (a *Arena) counted(k key) node {
	x := node{key: k, size: 1}
	if k.kind == api.Var {
		x.free = k.n + 1
	}
	for i, n := range x.kids() {
		p := &a.nodes[n]
		free := p.free
		if i == k.parts-1 && binds(k.kind) {
			free--
		}
		x.size += p.size
		x.deep = max(x.deep, p.deep)
		x.free = max(x.free, free)
	}
	x.deep++
	return x
}

// cut takes away all terms from a number on.
func (a *Arena) cut(from int) {
	for i := from; i < len(a.nodes); i++ {
		delete(a.places, a.nodes[i].key)
	}
	clear(a.nodes[from:])
	a.nodes = a.nodes[:from]
}

// at: the node of a number; where there is none, one of which all is nothing.
func (a *Arena) at(n int) (*node, api.Errno) {
	switch {
	case a == nil:
		return &node{}, api.ErrNil
	case n < 0 || n >= len(a.nodes):
		return &node{}, api.ErrNone
	}
	return &a.nodes[n], api.OK
}

// tree: the term of a number that is there, in memory of its own: no part of it is shared, not even with itself, so that whoever has it may turn it.
func (a *Arena) tree(n int) api.Term {
	x := &a.nodes[n]
	t := api.Term{K: x.kind, N: x.n, S: x.name}
	if x.levels > 0 {
		t.Ls = slices.Clone(x.ls[:x.levels])
	}
	t.T = slices.Grow(t.T, x.parts)
	for _, p := range x.kids() {
		t.T = append(t.T, a.tree(p))
	}
	return t
}
