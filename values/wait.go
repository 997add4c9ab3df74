package values

import (
	"batten/api"
	"batten/env"
)

// state is what is gone on with: a term in what stands around it, or, of no term, a head; applied to a list.
type state struct {
	t    *api.Term
	in   around
	head Head
	to   *list
}

// wait is a term that waits, with what stands around it, or a value: what is to be gone on with, if it is applied to a list.
// It keeps nothing of what it was asked, so that a value stays as it is, and takes as much fuel each time.
type wait func(to *list) state

// around is what stands around a term: its environment, and what its variables stand for, the innermost one's first. Those behind are free.
type around struct {
	e    *env.Env
	vars *list
}

// later: a term that waits here. What a variable stands for is told at once, so that none waits for another one.
func (in around) later(t *api.Term) wait {
	if t.K == api.Var {
		return in.variable(t.N)
	}
	return func(to *list) state { return state{t: t, in: in, to: to} }
}

// variable: what a variable stands for.
func (in around) variable(n int) wait {
	if n < in.vars.len() {
		return in.vars.at(n)
	}
	h := variable{n - in.vars.len()}
	return func(to *list) state { return state{head: h, to: to} }
}

// with: around a term that one more binder stands around.
func (in around) with(x wait) around { return around{in.e, in.vars.behind(x)} }

// later: a value that waits; a wait itself.
func (v *Value) later(to *list) state {
	return state{head: v.head, to: v.args.ahead(v.args.len(), to)}
}

// list is of what waits. It is not turned once it is made, so that lists may share their ends.
type list struct {
	first wait
	rest  *list
	many  int
}

func (l *list) len() int {
	if l == nil {
		return 0
	}
	return l.many
}

// behind: a list of one, and l behind it.
func (l *list) behind(x wait) *list { return &list{x, l, l.len() + 1} }

// from: l without its first n.
func (l *list) from(n int) *list {
	for range n {
		l = l.rest
	}
	return l
}

func (l *list) at(n int) wait { return l.from(n).first }

// ahead: the first n of l, and another list behind them.
func (l *list) ahead(n int, of *list) *list {
	if n == l.len() && of == nil {
		return l
	}
	all := of
	for last := &all; n > 0; n-- {
		c := &list{l.first, of, n + of.len()}
		*last, last, l = c, &c.rest, l.rest
	}
	return all
}
