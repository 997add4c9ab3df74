package values

import (
	"batten/api"
	"batten/env"
	"batten/rules"
	"batten/term"
)

// told is what the rules have told in a call, so that each is asked once, and what it makes is made once.
type told map[question]*answer

// question is what a rule's answer hangs on: a Const, applied to so many, in an environment; for some of them another name and number, too.
type question struct {
	rule   rule
	e      *env.Env
	name   string
	levels [api.MaxParams]api.Level
	many   int // of the levels
	args   int
	other  string
	n      int
}

type rule uint8

const (
	isDelta rule = iota
	isMajor
	isIota
	isField
	isRecord
)

// answer of a rule: a term, in which the variable i is what waits as the i-th argument, or the place of an argument, below 0 if there is none; or how many there are from there on.
type answer struct {
	t    api.Term
	at   int
	many int
	f    api.Errno
}

// delta: the value of a Const.
func (l told) delta(e *env.Env, t *api.Term) *answer {
	return l.once(question{rule: isDelta, e: e}, t, func() (a answer) {
		a.t, a.f = rules.Delta(e, *t)
		return a
	})
}

// major: the place at which a recursor looks that is applied to so many.
func (l told) major(e *env.Env, t *api.Term, args int) int {
	return l.once(question{rule: isMajor, e: e, args: args}, t, func() answer {
		at, is := rules.Major(e, shape(t, 0, args))
		return place(at, is)
	}).at
}

// iota: what becomes of a recursor that looks at the place at, where a constructor is, applied to so many fields. The variables of these stand behind those of what the recursor is applied to.
func (l told) iota(e *env.Env, t *api.Term, at int, c *api.Term, fields int) *answer {
	q := question{rule: isIota, e: e, args: at + 1, other: c.S, n: fields}
	return l.once(q, t, func() (a answer) {
		a.t, a.f = rules.Iota(e, shape(t, 0, at+1), shape(c, at+1, fields))
		return a
	})
}

// field: which argument of a constructor, applied to so many, a Proj tells.
func (l told) field(e *env.Env, p, c *api.Term, args int) int {
	q := question{rule: isField, e: e, args: args, other: p.S, n: p.N}
	return l.once(q, c, func() answer {
		x, is := rules.Field(e, p.S, p.N, shape(c, 0, args))
		return place(x.N, is)
	}).at
}

// record: where the fields of a structure's constructor begin, and how many it has; a place below 0 of anything else, and of one without fields.
func (l told) record(e *env.Env, c *api.Term) *answer {
	return l.once(question{rule: isRecord, e: e}, c, func() answer {
		x, _ := e.Find(c.S)
		r, is := rules.Record(e, x.Of)
		a := place(x.Fixed, is && x.Kind == api.IsCtor && r.Name == x.Name && r.Fields > 0)
		a.many = x.Fields
		return a
	})
}

func place(at int, is bool) answer {
	if !is {
		at = -1
	}
	return answer{at: at}
}

// once: the answer to a question of a Const.
func (l told) once(q question, t *api.Term, ask func() answer) *answer {
	q.name, q.many = t.S, copy(q.levels[:], t.Ls)
	a := l[q]
	if a == nil {
		x := ask()
		a = &x
		l[q] = a
	}
	return a
}

// shape: a Const, applied to so many variables, from one on. What waits stands for them, so that the rules are asked without a look at it.
func shape(t *api.Term, from, args int) api.Term {
	l := make([]api.Term, args)
	for i := range l {
		l[i] = api.Term{K: api.Var, N: from + i}
	}
	return term.Apply(*t, l...)
}
