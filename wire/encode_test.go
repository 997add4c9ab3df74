package wire

import (
	"bytes"
	"fmt"
	"strings"
	"testing"

	"batten/api"
	"batten/sample"
)

// P6.1

func TestEncodeOfNone(t *testing.T) {
	encodes(t, "BTN1\x00\x00\x00\x00")
	if b, e := Encode([]api.Decl{}); e != api.OK || string(b) != "BTN1\x00\x00\x00\x00" {
		t.Errorf("of an empty list: %q, error %d", b, e)
	}
}

// The bytes of each kind, written down by hand.
func TestEncodeOfEachKind(t *testing.T) {
	z := "\x00\x00\x00\x00\x00" // the level 0
	encodes(t, "BTN1"+"\x01\x01a"+"\x01"+z+"\x01\x01\x00"+"\x01\x01\x03\x00\x00",
		axiom(3, "a", srt(zero)))
	encodes(t, "BTN1"+"\x01\x01a"+"\x01\x00\x00\x04\x00\x00"+"\x01\x01\x00"+"\x01\x01\x00\x00\x00",
		axiom(0, "a", srt(param)))
	encodes(t, "BTN1"+"\x02\x03one\x01N"+"\x00"+"\x02\x03\x01\x00\x02\x05"+"\x01\x02\x00\x00\x00\x01",
		def(0, "one", con("N"), vr(5)))
	encodes(t, "BTN1"+"\x01\x01t"+"\x00"+"\x01\x02\x80\x80\x40"+"\x01\x03\x04\x00\x00\x00",
		theorem(4, "t", vr(1<<20), vr(1<<20)))
	encodes(t, "BTN1"+"\x01\x01X"+"\x01"+z+"\x01\x01\x00"+"\x01\x04\x01\x0c\x01\x00\x00\x00",
		block(1, 12, ind("X", srt(zero))))
	encodes(t, "BTN1"+"\x03\x01N\x06N.zero\x06N.succ"+"\x01"+z+"\x03"+"\x01\x00"+"\x03\x00\x00"+"\x06\x01\x01"+"\x01"+"\x04\x00\x00\x01\x00\x00\x02\x01\x01\x02\x02",
		sample.Numbers())
}

// The bytes of each kind of term, written down by hand; names are come to with the node that has them, levels behind its name.
func TestEncodeOfEachTerm(t *testing.T) {
	lz, l2, lp := "\x00\x00\x00\x00\x00", "\x02\x00\x00\x00\x00", "\x00\x00\x04\x00\x00"
	for i, c := range []struct {
		t                    api.Term
		names, levels, terms []string // the name x is ahead
	}{
		{srt(two), nil, []string{l2}, []string{"\x01\x00"}},
		{vr(0), nil, nil, []string{"\x02\x00"}},
		{vr(300), nil, nil, []string{"\x02\xac\x02"}},
		{con("A"), []string{"\x01A"}, nil, []string{"\x03\x01\x00"}},
		{con("x"), nil, nil, []string{"\x03\x00\x00"}},
		{con("A", two, zero, two, param), []string{"\x01A"}, []string{l2, lz, lp}, []string{"\x03\x01\x04\x00\x01\x00\x02"}},
		{app(vr(0), vr(1)), nil, nil, []string{"\x02\x00", "\x02\x01", "\x04\x00\x01"}},
		{lam(vr(1), vr(0)), nil, nil, []string{"\x02\x01", "\x02\x00", "\x05\x00\x01"}},
		{pi(vr(1), vr(1)), nil, nil, []string{"\x02\x01", "\x06\x00\x00"}},
		{let(con("B"), con("A"), con("B")), []string{"\x01B", "\x01A"}, nil, []string{"\x03\x01\x00", "\x03\x02\x00", "\x07\x00\x01\x00"}},
		{prj("P", 11, vr(0)), []string{"\x01P"}, nil, []string{"\x02\x00", "\x08\x01\x0b\x00"}},
		{prj("P", 0, con("Q")), []string{"\x01Q", "\x01P"}, nil, []string{"\x03\x01\x00", "\x08\x02\x00\x00"}},
		{app(prj("P", 0, con("Q", param)), srt(two)), []string{"\x01Q", "\x01P"}, []string{lp, l2}, []string{"\x03\x01\x01\x00", "\x08\x02\x00\x00", "\x01\x01", "\x04\x01\x02"}},
		{app(app(vr(1), vr(0)), app(vr(0), vr(1))), nil, nil, []string{"\x02\x01", "\x02\x00", "\x04\x00\x01", "\x04\x01\x00", "\x04\x02\x03"}},
		{lam(vr(0), app(vr(0), lam(vr(0), app(vr(0), vr(0))))), nil, nil, []string{"\x02\x00", "\x04\x00\x00", "\x05\x00\x01", "\x04\x00\x02", "\x05\x00\x03"}},
	} {
		names := append([]string{"\x01x"}, c.names...)
		place := string([]byte{byte(len(c.terms) - 1)})
		want := file(names, c.levels, c.terms, []string{"\x01\x00\x00" + place})
		b, e := Encode([]api.Decl{axiom(0, "x", c.t)})
		if e != api.OK || string(b) != want {
			t.Errorf("the one %d: error %d, %q, want %q", i, e, b, want)
		}
	}
}

// What stands more than once, in one declaration and in several, is told once, in the order in which it is come to.
func TestEncodeInOrder(t *testing.T) {
	lz, l2 := "\x00\x00\x00\x00\x00", "\x02\x00\x00\x00\x00"
	encodes(t, file(
		[]string{"\x01b", "\x01B", "\x01a", "\x01c", "\x01C"},
		[]string{l2, lz},
		[]string{"\x03\x01\x01\x00", "\x01\x01", "\x04\x00\x01", "\x03\x02\x00", "\x03\x00\x00", "\x04\x03\x04", "\x03\x04\x02\x00\x01"},
		[]string{
			"\x01\x00\x00\x02",                     // b: B of 2, applied to Sort 0
			"\x02\x01\x02\x00\x02",                 // a: a part of that, and it
			"\x01\x00\x02\x05",                     // a again: a, applied to b
			"\x01\x00\x00\x02",                     // the first one again
			"\x03\x02\x03\x06\x01",                 // c: C of 2, 0
			"\x02\x01\x02\x00\x02",                 // the second one again
			"\x04\x00\x00\x01\x04\x06\x01\x02\x06", // C: with a as its constructor
		}),
		axiom(0, "b", app(con("B", two), srt(zero))),
		def(1, "a", con("B", two), app(con("B", two), srt(zero))),
		axiom(0, "a", app(con("a"), con("b"))),
		axiom(0, "b", app(con("B", two), srt(zero))),
		theorem(2, "c", con("C", two, zero), srt(zero)),
		def(1, "a", con("B", two), app(con("B", two), srt(zero))),
		block(0, 0, ind("C", con("C", two, zero), ctor("a", con("C", two, zero)))),
	)
	encodes(t, file( // of a block each name ahead of its own type
		[]string{"\x01T", "\x01t", "\x01c", "\x01v", "\x01d", "\x01U"},
		nil,
		[]string{"\x03\x01\x00", "\x03\x03\x00", "\x03\x02\x00", "\x03\x00\x00"},
		[]string{"\x04\x00\x02\x02\x00\x00\x02\x02\x01\x04\x02\x05\x03\x00"}),
		block(0, 2, ind("T", con("t"), ctor("c", con("v")), ctor("d", con("c"))), ind("U", con("T"))),
	)
}

// All is as the words say it, of the small terms too.
func TestEncodeIsAsTold(t *testing.T) {
	for i, d := range sample.Decls() {
		encodes(t, joined(pieces([]api.Decl{d})), d)
		encodes(t, joined(pieces([]api.Decl{d, d})), d, d)
		for _, o := range sample.Decls()[:i] {
			encodes(t, joined(pieces([]api.Decl{d, o})), d, o)
		}
	}
	encodes(t, joined(pieces(sample.Decls())), sample.Decls()...)
	var l []api.Decl
	for i, x := range declarable(7) {
		if len(l) == api.MaxDecls {
			encodes(t, joined(pieces(l)), l...)
			l = nil
		}
		l = append(l, []api.Decl{axiom(i%5, "a", x), def(0, "d", vr(0), x), theorem(1, "A", x, app(x, x)), block(0, i%13, ind("P", x, ctor("a", pi(x, x)), ctor("B", x)))}[i%4])
	}
	encodes(t, joined(pieces(l)), l...)
}

// declarable: small terms that may be declared, the first ones and each n-th one.
func declarable(n int) []api.Term {
	var l []api.Term
	for _, x := range sample.Some(n) {
		if mayDeclared(x) {
			l = append(l, x)
		}
	}
	return l
}

func TestEncodeOfWhatMayNotBe(t *testing.T) {
	for _, d := range sample.BadDecls() {
		noEncode(t, []api.Decl{d}, api.ErrArg)
	}
	good, bad := sample.Numbers(), api.Decl{}
	noEncode(t, []api.Decl{good, bad}, api.ErrArg)
	noEncode(t, []api.Decl{bad, good}, api.ErrArg)
	noEncode(t, []api.Decl{good, good, bad, good}, api.ErrArg)
}

func decls(n int, d api.Decl) []api.Decl {
	var l []api.Decl
	for range n {
		l = append(l, d)
	}
	return l
}

// More than MaxDecls go ahead of what may not be, that ahead of tables that are too full.
func TestEncodeUpToMaxDecls(t *testing.T) {
	a := axiom(0, "a", vr(0))
	encodes(t, joined(pieces(decls(256, a))), decls(256, a)...)
	noEncode(t, decls(257, a), api.ErrMany)
	noEncode(t, decls(257, api.Decl{}), api.ErrMany)
	noEncode(t, decls(1<<16, a), api.ErrMany)
	noEncode(t, decls(256, api.Decl{}), api.ErrArg)
	full := manyNames(4097)
	noEncode(t, full, api.ErrMany)
	noEncode(t, append(full, api.Decl{}), api.ErrArg)
}

// spread: axioms of the types that join all of l, some hundreds each.
func spread(l []api.Term) []api.Decl {
	const each = 512
	var out []api.Decl
	for len(l) > 0 {
		n := min(each, len(l))
		out = append(out, axiom(0, "x", balanced(l[:n])))
		l = l[n:]
	}
	return out
}

// balanced: all of l, applied, so that few stand in one another.
func balanced(l []api.Term) api.Term {
	if len(l) == 1 {
		return l[0]
	}
	return app(balanced(l[:len(l)/2]), balanced(l[len(l)/2:]))
}

// manyNames: declarations with n names.
func manyNames(n int) []api.Decl {
	var l []api.Term
	for i := range n - 1 { // and x
		l = append(l, con(fmt.Sprint("n", i)))
	}
	return spread(l)
}

// manyLevels: declarations with n levels.
func manyLevels(n int) []api.Decl {
	var l []api.Term
	for i := range n {
		l = append(l, srt(api.Level{P: [api.MaxParams]int{-1, i % 65, i / 65, -1}}))
	}
	return spread(l)
}

func TestEncodeUpToTheTables(t *testing.T) {
	for _, n := range []int{4095, 4096} {
		for _, l := range [][]api.Decl{manyNames(n), manyLevels(n)} {
			encodes(t, joined(pieces(l)), l...)
		}
	}
	for _, n := range []int{4097, 4098, 4225} {
		noEncode(t, manyNames(n), api.ErrMany)
		noEncode(t, manyLevels(n), api.ErrMany)
	}
	one := manyNames(4096) // names of declarations and of constructors are of the same table
	one[0].Name = "y"
	noEncode(t, one, api.ErrMany)
	noEncode(t, append(manyNames(4096), block(0, 0, ind("x", vr(0), ctor("y", vr(0))))), api.ErrMany)
}

// Terms of which there are more than the table has, than an arena has, or than a file can hold.
func TestEncodeOfTooManyTerms(t *testing.T) {
	for _, n := range []int{60000, 65536, 65537, 1 << 18, 1<<18 + 1, 400000} {
		var l []api.Term
		for i := range n / 2 {
			l = append(l, vr(i))
		}
		var inds []api.Ind
		var d []api.Decl
		for _, a := range spread(l) {
			inds = append(inds, ind(a.Name, a.Type))
			if len(inds) == 3 {
				d = append(d, block(0, 0, inds...))
				inds = nil
			}
		}
		noEncode(t, append(d, axiom(0, "x", vr(0))), api.ErrMany)
	}
}

// ofBytes: declarations with so many bytes, near to MaxFile.
func ofBytes(t *testing.T, want int) []api.Decl {
	t.Helper()
	build := func(short int) []api.Decl {
		var l []api.Term
		for i := range 4095 {
			s := fmt.Sprint("n", i)
			cut := min(short, 32-len(s))
			short -= cut
			l = append(l, con(s+strings.Repeat("_", 32-len(s)-cut)))
		}
		for i := range 9200 {
			l = append(l, vr(20000+i))
		}
		return spread(l)
	}
	l := build(0)
	if over := len(joined(pieces(l))) - want; over < 0 || over > 4095*20 {
		t.Fatalf("%d bytes too many", over)
	} else {
		l = build(over)
	}
	if n := len(joined(pieces(l))); n != want {
		t.Fatalf("%d bytes, want %d", n, want)
	}
	return l
}

func TestEncodeUpToMaxFile(t *testing.T) {
	if api.MaxFile != 262144 {
		t.Fatalf("MaxFile: %d", api.MaxFile)
	}
	for _, n := range []int{262143, 262144} {
		l := ofBytes(t, n)
		p := pieces(l)
		b := encoded(t, l)
		if len(b) != n || string(b) != joined(p) {
			t.Fatalf("%d bytes, want %d", len(b), n)
		}
		sameDecls(t, decoded(t, b), l)
		if n < api.MaxFile {
			faulty(t, string(b)+"\x00", n, api.ErrBytes)
		}
		faulty(t, string(b)+"\x00\x00", 0, api.ErrMany)
		faulty(t, string(b[:n-1]), n-len(p[len(p)-1].b), api.ErrBytes)
	}
	for _, n := range []int{262145, 262146} {
		l := ofBytes(t, n)
		noEncode(t, l, api.ErrMany)
		faulty(t, joined(pieces(l)), 0, api.ErrMany)
	}
}

// What is handed in stays as it is, the room behind lists too, and what is answered is new memory. (R3)
func TestEncodeTurnsNothing(t *testing.T) {
	l := append(sample.Decls(), api.Decl{Name: "room"})
	inds := []api.Ind{ind("T", vr(0), ctor("c", vr(1)), ctor("room", vr(2))), ind("room", vr(3))}
	inds[0].Ctors = inds[0].Ctors[:1]
	l[0] = block(0, 0, inds[:1]...)
	look := func() string {
		var s string
		for _, d := range l {
			s += sample.DeclText(d)
		}
		return s + sample.DeclText(block(0, 0, inds...)) + sample.DeclText(block(0, 0, ind("", vr(0), inds[0].Ctors[:2]...)))
	}
	was := look()
	n := len(l) - 1
	b := encoded(t, l[:n])
	if look() != was {
		t.Error("turned")
	}
	again := encoded(t, l[:n])
	want := string(b)
	clear(b)
	_ = append(b[:0], "????"...)
	if string(again) != want {
		t.Error("two answers share memory")
	}
	if !bytes.Equal(encoded(t, l[:n]), []byte(want)) {
		t.Error("the same call has another answer")
	}
}

// Terms that share their parts in memory are as those that do not.
func TestEncodeOfShared(t *testing.T) {
	x := app(con("A", two), vr(3))
	for range 9 {
		x = let(x, lam(x, x), vr(1))
	}
	if term := sample.Clone(x); mayDeclared(term) {
		t.Fatal("too small")
	}
	x = app(con("A", two), vr(3))
	for range 5 {
		x = let(x, lam(x, x), vr(1))
	}
	l := []api.Decl{def(0, "d", x, app(x, x)), axiom(0, "e", x.T[1])}
	cloned := []api.Decl{def(0, "d", sample.Clone(x), app(sample.Clone(x), sample.Clone(x))), axiom(0, "e", sample.Clone(x.T[1]))}
	want := joined(pieces(l))
	encodes(t, want, l...)
	encodes(t, want, cloned...)
}
