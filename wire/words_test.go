package wire

import (
	"bytes"
	"errors"
	"slices"
	"strings"
	"testing"

	"batten/api"
	"batten/sample"
)

var (
	zero, two, param = sample.Zero, sample.Two, sample.Param

	srt, vr, con, prj = sample.Sort, sample.Var, sample.Const, sample.Proj
	app, lam, pi, let = sample.App, sample.Lam, sample.Pi, sample.Let

	axiom, def, theorem, block = sample.Axiom, sample.Def, sample.Theorem, sample.Block
	ind, ctor                  = sample.Ind, sample.Ctor
)

// num: the bytes of a number.
func num(n int) string {
	var b []byte
	for ; n >= 128; n /= 128 {
		b = append(b, byte(n%128+128))
	}
	return string(append(b, byte(n)))
}

// str: the bytes of a name.
func str(s string) string { return num(len(s)) + s }

// lev: the bytes of a level's entry.
func lev(l api.Level) string {
	s := num(l.C)
	for _, n := range l.P {
		s += num(n + 1)
	}
	return s
}

// The kinds of pieces.
const (
	letter = iota // one of the letters ahead
	number        // as it is in itself
	where         // a place
	name          // as it is in itself
	kind          // of an entry
)

// piece of a file's bytes, which is right or wrong by itself.
type piece struct {
	is   int
	b    string
	most int // of a number and of a kind what it may be; of a place how many entries there are
}

// words is how the chapter's words make bytes of declarations: tables as lists, in which each thing is looked for by what tells it apart.
type words struct {
	names, levels, terms    []string // what tells them apart
	nameEntries, levEntries [][]piece
	termEntries             [][]piece
	declEntries             [][]piece
	seen                    map[string]int // places of terms
}

func newWords() *words { return &words{seen: map[string]int{}} }

// once: the place of what is told by s; what is not there yet is added.
func once(l *[]string, s string, add func()) int {
	if i := slices.Index(*l, s); i >= 0 {
		return i
	}
	*l = append(*l, s)
	add()
	return len(*l) - 1
}

func (w *words) name(s string) piece {
	n := once(&w.names, s, func() { w.nameEntries = append(w.nameEntries, []piece{{name, str(s), 0}}) })
	return piece{where, num(n), -1}
}

func (w *words) level(l api.Level) piece {
	n := once(&w.levels, lev(l), func() {
		p := []piece{{number, num(l.C), api.MaxLevel}}
		for _, n := range l.P {
			p = append(p, piece{number, num(n + 1), api.MaxLevel + 1})
		}
		w.levEntries = append(w.levEntries, p)
	})
	return piece{where, num(n), -2}
}

func (w *words) term(t api.Term) piece {
	s := sample.Text(t)
	n, is := w.seen[s]
	if !is {
		p := []piece{{kind, string([]byte{t.K}), 8}}
		var parts []piece
		for _, x := range t.T {
			parts = append(parts, w.term(x))
		}
		n = len(w.terms)
		for i := range parts {
			parts[i].most = n
		}
		switch t.K {
		case api.Var:
			p = append(p, piece{number, num(t.N), 1 << 20})
		case api.Const:
			p = append(p, w.name(t.S), piece{number, num(len(t.Ls)), api.MaxParams})
		case api.Proj:
			p = append(p, w.name(t.S), piece{number, num(t.N), api.MaxArgs - 1})
		}
		for _, l := range t.Ls {
			p = append(p, w.level(l))
		}
		w.seen[s] = n
		w.terms = append(w.terms, s)
		w.termEntries = append(w.termEntries, append(p, parts...))
	}
	return piece{where, num(n), -3}
}

func (w *words) decl(d api.Decl) {
	p := []piece{{kind, string([]byte{d.Kind}), 4}, {number, num(d.Params), api.MaxParams}}
	if d.Kind == api.Block {
		p = append(p, piece{number, num(d.Fixed), api.MaxArgs}, piece{number, num(len(d.Inds)), api.MaxTypes})
		for _, x := range d.Inds {
			p = append(p, w.name(x.Name), w.term(x.Type), piece{number, num(len(x.Ctors)), api.MaxCtors})
			for _, c := range x.Ctors {
				p = append(p, w.name(c.Name), w.term(c.Type))
			}
		}
	} else {
		p = append(p, w.name(d.Name), w.term(d.Type))
		if d.Kind != api.Axiom {
			p = append(p, w.term(d.Value))
		}
	}
	w.declEntries = append(w.declEntries, p)
}

// pieces of the bytes of declarations that may be.
func pieces(l []api.Decl) []piece {
	w := newWords()
	for _, d := range l {
		w.decl(d)
	}
	return w.pieces()
}

// pieces of the tables.
func (w *words) pieces() []piece {
	var out []piece
	for i := range len(letters) {
		out = append(out, piece{letter, letters[i : i+1], 0})
	}
	for i, t := range [][][]piece{w.nameEntries, w.levEntries, w.termEntries, w.declEntries} {
		most := []int{4096, 4096, 65536, 256}[i]
		out = append(out, piece{number, num(len(t)), most})
		for _, entry := range t {
			out = append(out, entry...)
		}
	}
	for i, p := range out {
		if p.most < 0 {
			out[i].most = []int{len(w.names), len(w.levels), len(w.terms)}[-p.most-1]
		}
	}
	return out
}

// joined: the bytes of pieces.
func joined(l []piece) string {
	var s strings.Builder
	for _, p := range l {
		s.WriteString(p.b)
	}
	return s.String()
}

// file: bytes of tables whose entries are bytes.
func file(names, levels, terms, decls []string) string {
	s := "BTN1"
	for _, t := range [][]string{names, levels, terms, decls} {
		s += num(len(t)) + strings.Join(t, "")
	}
	return s
}

// mayBe: may a declaration be, as the chapter says it? One that has none but the fields of its kind is the same, if only these are told.
func mayBe(d api.Decl) bool {
	told := api.Decl{Kind: d.Kind, Params: d.Params}
	ok := 0 <= d.Params && d.Params <= 4
	switch d.Kind {
	case 1:
		told.Name, told.Type = d.Name, d.Type
		ok = ok && mayNamed(d.Name, d.Type)
	case 2, 3:
		told.Name, told.Type, told.Value = d.Name, d.Type, d.Value
		ok = ok && mayNamed(d.Name, d.Type) && mayDeclared(d.Value)
	case 4:
		told.Fixed, told.Inds = d.Fixed, d.Inds
		ok = ok && 0 <= d.Fixed && d.Fixed <= 12 && 1 <= len(d.Inds) && len(d.Inds) <= 3
		for _, x := range d.Inds {
			ok = ok && mayNamed(x.Name, x.Type) && len(x.Ctors) <= 8
			for _, c := range x.Ctors {
				ok = ok && mayNamed(c.Name, c.Type)
			}
		}
	default:
		return false
	}
	return ok && sample.DeclText(told) == sample.DeclText(d)
}

func mayNamed(s string, t api.Term) bool {
	const of = "abcdefghijklmnopqrstuvwxyzABCDEFGHIJKLMNOPQRSTUVWXYZ0123456789_.'"
	return 1 <= len(s) && len(s) <= 32 && strings.Trim(s, of) == "" && mayDeclared(t)
}

// mayDeclared: of terms that end.
func mayDeclared(t api.Term) bool {
	n, deep, ok := look(t)
	return ok && n <= 4096 && deep <= 256
}

// look: how many nodes a term has, how many stand in one another, and whether each has the fields that it must have.
func look(t api.Term) (n, deep int, ok bool) {
	levels, terms, named, top := []int{0, 0}, 0, false, 0
	switch t.K {
	case 1:
		levels = []int{1, 1}
	case 2:
		top = 1 << 20
	case 3:
		levels, named = []int{0, 4}, true
	case 4, 5, 6:
		terms = 2
	case 7:
		terms = 3
	case 8:
		terms, named, top = 1, true, 11
	default:
		return 0, 0, false
	}
	ok = levels[0] <= len(t.Ls) && len(t.Ls) <= levels[1] && len(t.T) == terms && 0 <= t.N && t.N <= top
	ok = ok && (t.S == "" && !named || named && mayNamed(t.S, vr(0)))
	for _, l := range t.Ls {
		most := slices.Max(l.P[:])
		ok = ok && 0 <= l.C && l.C <= 64 && -1 <= slices.Min(l.P[:]) && most <= 64 && (l.C == 0 || most < l.C)
	}
	n, deep = 1, 0
	for _, x := range t.T {
		m, k, is := look(x)
		n, deep, ok = n+m, max(deep, k), ok && is
	}
	return n, deep + 1, ok
}

// encoded: the bytes of what must be encoded.
func encoded(t *testing.T, l []api.Decl) []byte {
	t.Helper()
	b, e := Encode(l)
	if e != api.OK {
		t.Fatalf("Encode: error %d", e)
	}
	return b
}

// decoded: what bytes must be decoded to.
func decoded(t *testing.T, b []byte) []api.Decl {
	t.Helper()
	l, err := Decode(b)
	if err != nil {
		t.Fatalf("Decode: %v", err)
	}
	return l
}

// sameDecls: are these the same?
func sameDecls(t *testing.T, got, want []api.Decl) {
	t.Helper()
	if len(got) != len(want) {
		t.Fatalf("%d declarations, want %d", len(got), len(want))
	}
	for i := range got {
		if g, w := sample.DeclText(got[i]), sample.DeclText(want[i]); g != w {
			t.Fatalf("declaration %d: %.300s, want %.300s", i, g, w)
		}
	}
}

// noEncode: is that error told, and nothing else?
func noEncode(t *testing.T, l []api.Decl, want api.Errno) {
	t.Helper()
	if b, e := Encode(l); e != want || len(b) != 0 {
		t.Errorf("Encode: error %d, %d bytes, want error %d", e, len(b), want)
	}
}

// faulty: do bytes fail there, by that error, and is nothing else told?
func faulty(t *testing.T, b string, at int, want api.Errno) {
	t.Helper()
	l, err := Decode([]byte(b))
	var f *Fault
	if !errors.As(err, &f) || f == nil {
		t.Fatalf("Decode of %.200q: %d declarations, no Fault: %v", b, len(l), err)
	}
	if f.At != at || f.Err != want || !errors.Is(err, want) || len(l) != 0 || err.Error() == "" {
		t.Fatalf("Decode of %.200q: a Fault at %d, error %d, %d declarations; want one at %d, error %d", b, f.At, f.Err, len(l), at, want)
	}
}

// encodes: are these the bytes, and are they decoded to the same?
func encodes(t *testing.T, want string, l ...api.Decl) {
	t.Helper()
	b := encoded(t, l)
	if !bytes.Equal(b, []byte(want)) {
		t.Fatalf("%q, want %q", b, want)
	}
	sameDecls(t, decoded(t, b), l)
}
