package values

import "batten/api"

// most is how many heads may wait for what they look at: without it what has no end would take all memory with not much fuel.
const most = 1 << 21

// move is how it is gone on.
type move uint8

const (
	on   move = iota // with a state
	rest             // not at all: it is a value
	out              // the fuel goes out, or something is too great
)

// Maker makes values, one behind the other, with what is left of fuel. Each step takes 1, as it does in reduce, and what is asked again is made again: so enough is enough, and what is asked says nothing to what comes later.
type Maker struct {
	left   int
	nodes  int // gone through since the last step
	told   told
	behind []func(v *Value) (state, move) // what is to be done with the value of a part, the innermost one's last
}

// NewMaker: one with so much fuel.
func NewMaker(fuel int) *Maker { return &Maker{left: max(fuel, 0), told: told{}} }

// Left: what is left of the fuel.
func (m *Maker) Left() int {
	if m == nil {
		return 0
	}
	return m.left
}

// Value: of a part; nil, if the fuel goes out, or something is too great.
func (m *Maker) Value(p Part) *Value {
	if m == nil || m.told == nil || p.wait == nil { // no call has made it
		return nil
	}
	return m.value(p.wait(nil))
}

// value: that of a state; nil, if the fuel goes out, or something is too great.
func (m *Maker) value(s state) *Value {
	m.nodes, m.behind = 0, m.behind[:0]
	for {
		next, by := m.next(s)
		if by == rest {
			v := &Value{s.head, s.to}
			if len(m.behind) == 0 {
				return v
			}
			next, by = m.back(v)
		}
		if by == out {
			return nil
		}
		s = next
	}
}

// next: what a state is gone on with.
func (m *Maker) next(s state) (state, move) {
	switch {
	case s.to.len() >= api.TopDepth:
		return state{}, out
	case s.t != nil:
		return m.opened(s)
	}
	switch h := s.head.(type) {
	case lambda:
		if s.to != nil {
			return m.step(state{t: &h.t.T[1], in: h.in.with(s.to.first), to: s.to.rest})
		}
	case recursor:
		return m.looked(h, s.to)
	}
	return state{}, rest
}

// opened: what a term is gone on with.
func (m *Maker) opened(s state) (state, move) {
	t, in := s.t, s.in
	switch t.K {
	case api.Sort:
		return state{head: sort{t}, to: s.to}, on
	case api.Var:
		return in.variable(t.N)(s.to), on
	case api.Const:
		return m.named(s)
	case api.App:
		return m.down(state{t: &t.T[0], in: in, to: s.to.behind(in.later(&t.T[1]))})
	case api.Lam:
		return state{head: lambda{t, in}, to: s.to}, on
	case api.Pi:
		return state{head: functions{t, in}, to: s.to}, on
	case api.Let:
		return m.step(state{t: &t.T[2], in: in.with(in.later(&t.T[1])), to: s.to})
	}
	return m.projected(s)
}

// named: what a Const is gone on with.
func (m *Maker) named(s state) (state, move) {
	t, e := s.t, s.in.e
	switch x, _ := e.Find(t.S); x.Kind {
	case api.IsDef:
		switch u := m.told.delta(e, t); u.f {
		case api.OK:
			return m.step(state{t: &u.t, in: around{e: e}, to: s.to})
		case api.ErrMany:
			return state{}, out
		}
	case api.IsRec:
		return state{head: recursor{t, e}, to: s.to}, on
	}
	return state{head: constant{t}, to: s.to}, on
}

// looked: what a recursor is gone on with, if it looks at one of those that it is applied to.
func (m *Maker) looked(h recursor, to *list) (state, move) {
	at := m.told.major(h.e, h.t, to.len())
	if at < 0 {
		return state{}, rest
	}
	return m.within(to.at(at)(nil), func(v *Value) (state, move) {
		if c, is := v.head.(constant); is {
			switch u := m.told.iota(h.e, h.t, at, c.t, v.args.len()); u.f {
			case api.OK:
				return m.step(state{t: &u.t, in: around{h.e, to.ahead(at+1, v.args)}, to: to.from(at + 1)})
			case api.ErrMany:
				return state{}, out
			}
		}
		return state{head: constant{h.t}, to: to.ahead(at, to.from(at+1).behind(v.later))}, on
	})
}

// projected: what a Proj is gone on with.
func (m *Maker) projected(s state) (state, move) {
	t, e := s.t, s.in.e
	of, by := m.down(state{t: &t.T[0], in: s.in})
	if by == out {
		return state{}, out
	}
	return m.within(of, func(v *Value) (state, move) {
		if c, is := v.head.(constant); is {
			if at := m.told.field(e, t, c.t, v.args.len()); at >= 0 {
				return m.step(v.args.at(at)(s.to))
			}
		}
		return state{head: field{t, v}, to: s.to}, on
	})
}

// step: to a state, by 1 of fuel.
func (m *Maker) step(s state) (state, move) {
	if m.left == 0 {
		return state{}, out
	}
	m.left--
	m.nodes = 0
	return s, on
}

// down: into a node. Without a step no more of them are gone through than a term may have, or it were too great.
func (m *Maker) down(s state) (state, move) {
	m.nodes++
	if m.nodes > api.TopTerm {
		return state{}, out
	}
	return s, on
}

// within: to a part, with whose value something is to be done.
func (m *Maker) within(s state, do func(v *Value) (state, move)) (state, move) {
	if len(m.behind) == most {
		return state{}, out
	}
	m.behind = append(m.behind, do)
	return s, on
}

// back: what the value of the innermost part is gone on with.
func (m *Maker) back(v *Value) (state, move) {
	last := len(m.behind) - 1
	do := m.behind[last]
	m.behind[last] = nil // what it holds is not needed any more
	m.behind = m.behind[:last]
	return do(v)
}
