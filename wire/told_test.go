package wire

import (
	"math/big"

	"batten/api"
	"batten/sample"
)

// fail is where the words say that bytes fail.
type fail struct {
	at int
	e  api.Errno
}

// told is how the chapter's words tell what bytes are the bytes of: from the first byte on, and the first failure ends it.
type told struct {
	b      string
	at     int
	names  []string
	levels []api.Level
	terms  []api.Term
}

// tell: the declarations, or where and by what it fails.
func tell(b []byte) (l []api.Decl, f fail) {
	defer func() {
		if x := recover(); x != nil {
			l, f = nil, x.(fail)
		}
	}()
	w := &told{b: string(b)}
	w.asked(len(b) <= 262144, 0, api.ErrMany)
	w.asked(len(b) >= 4 && w.b[:min(4, len(b))] == "BTN1", 0, api.ErrBytes)
	w.at = 4
	for range w.number(4096) {
		w.names = append(w.names, w.text())
	}
	for range w.number(4096) {
		w.levels = append(w.levels, w.level())
	}
	for range w.number(65536) {
		w.terms = append(w.terms, w.term())
	}
	for range w.number(256) {
		l = append(l, w.decl())
	}
	w.asked(w.at == len(b), w.at, api.ErrBytes)
	return l, fail{}
}

func (w *told) asked(is bool, at int, e api.Errno) {
	if !is {
		panic(fail{at, e})
	}
}

// any number that stands there: 7 bits a byte, up to 64 in all, in the one form.
func (w *told) any() *big.Int {
	n := new(big.Int)
	for i := 0; ; i++ {
		w.asked(w.at+i < len(w.b), w.at, api.ErrBytes)
		c := w.b[w.at+i]
		n.Or(n, new(big.Int).Lsh(big.NewInt(int64(c&127)), uint(7*i)))
		if c < 128 {
			w.asked((c != 0 || i == 0) && n.BitLen() <= 64, w.at, api.ErrBytes)
			w.at += i + 1
			return n
		}
	}
}

func (w *told) number(most int64) int {
	at := w.at
	n := w.any()
	w.asked(n.Cmp(big.NewInt(most)) <= 0, at, api.ErrMany)
	return int(n.Int64())
}

func (w *told) place(entries int) int {
	at := w.at
	n := w.any()
	w.asked(n.Cmp(big.NewInt(int64(entries))) < 0, at, api.ErrNone)
	return int(n.Int64())
}

func (w *told) text() string {
	at := w.at
	n := w.number(32)
	w.asked(w.at+n <= len(w.b), at, api.ErrBytes)
	s := w.b[w.at : w.at+n]
	w.asked(mayNamed(s, vr(0)), at, api.ErrName)
	w.at += n
	return s
}

func (w *told) level() api.Level {
	at := w.at
	l := api.Level{C: w.number(64)}
	for i := range 4 {
		l.P[i] = w.number(65) - 1
	}
	for _, n := range l.P {
		w.asked(l.C == 0 || n < l.C, at, api.ErrLevel)
	}
	return l
}

func (w *told) byte() uint8 {
	w.asked(w.at < len(w.b), w.at, api.ErrBytes)
	w.at++
	return w.b[w.at-1]
}

func (w *told) term() api.Term {
	at := w.at
	t := api.Term{K: w.byte()}
	w.asked(1 <= t.K && t.K <= 8, at, api.ErrBytes)
	levels := 0
	switch t.K {
	case api.Sort:
		levels = 1
	case api.Var:
		t.N = w.number(1 << 20)
	case api.Const:
		t.S = w.names[w.place(len(w.names))]
		levels = w.number(4)
	case api.Proj:
		t.S = w.names[w.place(len(w.names))]
		t.N = w.number(11)
	}
	for range levels {
		t.Ls = append(t.Ls, w.levels[w.place(len(w.levels))])
	}
	for range []int{0, 0, 0, 0, 2, 2, 2, 3, 1}[t.K] {
		t.T = append(t.T, w.terms[w.place(len(w.terms))])
	}
	w.asked(mayDeclared(t), at, api.ErrMany)
	return t
}

func (w *told) named() (string, api.Term) {
	n := w.place(len(w.names))
	return w.names[n], w.terms[w.place(len(w.terms))]
}

func (w *told) decl() api.Decl {
	at := w.at
	d := api.Decl{Kind: w.byte()}
	w.asked(1 <= d.Kind && d.Kind <= 4, at, api.ErrBytes)
	d.Params = w.number(4)
	if d.Kind != api.Block {
		d.Name, d.Type = w.named()
		if d.Kind != api.Axiom {
			d.Value = w.terms[w.place(len(w.terms))]
		}
		return d
	}
	d.Fixed = w.number(12)
	for range w.number(3) {
		s, t := w.named()
		x := sample.Ind(s, t)
		for range w.number(8) {
			s, t := w.named()
			x.Ctors = append(x.Ctors, sample.Ctor(s, t))
		}
		d.Inds = append(d.Inds, x)
	}
	w.asked(len(d.Inds) > 0, at, api.ErrArg)
	return d
}
