package wire

import (
	"bytes"
	"errors"
	"slices"
	"testing"

	"batten/api"
	"batten/sample"
)

// P6.3

// asTold: is of these bytes told what the words say, and does the law hold of that?
func asTold(t *testing.T, b []byte) {
	t.Helper()
	was := slices.Clone(b)
	l, err := Decode(b)
	if !bytes.Equal(b, was) {
		t.Fatalf("Decode turned %q", was)
	}
	want, f := tell(b)
	if f.e != api.OK {
		faulty(t, string(b), f.at, f.e)
		return
	}
	if err != nil {
		t.Fatalf("Decode of %.200q: %v", b, err)
	}
	sameDecls(t, l, want)
	for i, d := range l {
		if !May(d) || !mayBe(d) {
			t.Fatalf("Decode of %.200q: the one %d may not be", b, i)
		}
	}
	once, e := Encode(l)
	if words := joined(pieces(l)); len(words) > api.MaxFile {
		if e != api.ErrMany {
			t.Fatalf("%d bytes, error %d", len(words), e)
		}
		return
	}
	encodes(t, joined(pieces(l)), l...)
	twice := encoded(t, decoded(t, once))
	if !bytes.Equal(once, twice) {
		t.Fatalf("encoded anew: %q, then %q", once, twice)
	}
}

func TestWhatIsEncodedIsDecoded(t *testing.T) {
	for _, l := range [][]api.Decl{nil, spoiled(), sample.Decls(), manyNames(700), manyLevels(700)} {
		asTold(t, encoded(t, l))
	}
	x := declarable(3)
	for i := range x {
		y := x[len(x)-1-i]
		l := []api.Decl{axiom(i%5, "a", x[i]), theorem(0, "b", y, x[i]), block(1, i%13, ind("c", y, ctor("a", app(x[i], y))))}
		encodes(t, joined(pieces(l)), l...)
	}
}

// Each byte in the place of each one of a file, and each one left out, or twice.
func TestDecodeIsAsTold(t *testing.T) {
	b := encoded(t, spoiled())
	for i := range b {
		asTold(t, slices.Delete(slices.Clone(b), i, i+1))
		asTold(t, slices.Insert(slices.Clone(b), i, b[i]))
		for c := range 256 {
			x := slices.Clone(b)
			x[i] = byte(c)
			asTold(t, x)
		}
	}
}

// Where what much else tells of stands ahead of all, it is told by fewer bytes than in the order in which it is come to: what is decoded may have too many bytes then.
func TestDecodedButNotEncoded(t *testing.T) {
	var few, many, rest []api.Term
	for i := range 80 {
		few = append(few, vr(i))
	}
	for i := range 14500 {
		many = append(many, sample.Node([]uint8{api.App, api.Lam, api.Pi}[i/6400], vr(i/80%80), vr(i%80)))
	}
	for i := range 8192 {
		rest = append(rest, vr(1000+i))
	}
	ahead := append(spread(few), spread(many)...)
	w := newWords()
	for _, d := range append(slices.Clone(ahead), spread(rest)...) {
		w.decl(d)
	}
	w.declEntries = slices.Concat(w.declEntries[len(ahead):], w.declEntries[:len(ahead)])
	b := joined(w.pieces())
	l := decoded(t, []byte(b))
	sameDecls(t, l, append(spread(rest), ahead...))
	if n := len(joined(pieces(l))); len(b) > api.MaxFile || n <= api.MaxFile {
		t.Fatalf("%d bytes, encoded %d", len(b), n)
	}
	noEncode(t, l, api.ErrMany)
}

// grown: a declaration that the bytes tell, with any fields; it may be, or not.
func grown(b []byte) api.Decl {
	next := func(of int) int {
		if len(b) == 0 {
			return 0
		}
		c := b[0]
		b = b[1:]
		return int(c) % of
	}
	name := func() string { return []string{"a", "A", "B.b", sample.Name32, sample.Name33, ""}[next(200)%6] }
	tree := func() api.Term {
		n := min(next(256), len(b))
		t := sample.Grown(b[:n])
		b = b[n:]
		return t
	}
	d := api.Decl{Kind: uint8(next(5)), Params: next(6)}
	odd := next(256) > 250 // with fields that are not the kind's
	if d.Kind != api.Block || odd {
		d.Name, d.Type = name(), tree()
	}
	if d.Kind == api.Def || d.Kind == api.Theorem || odd {
		d.Value = tree()
	}
	if d.Kind == api.Block || odd {
		d.Fixed = next(14)
		for range next(5) {
			x := ind(name(), tree())
			for range next(10) {
				x.Ctors = append(x.Ctors, ctor(name(), tree()))
			}
			d.Inds = append(d.Inds, x)
		}
	}
	return d
}

// FuzzDecode: any bytes, held against the words. (R1)
func FuzzDecode(f *testing.F) {
	f.Add([]byte("BTN1\x00\x00\x01\x02\x00\x00"))
	f.Add([]byte("BTN1\x00\x00\x01\x04\x00\x00\x00"))
	f.Add([]byte(joined(pieces(spoiled()))))
	for _, d := range sample.Decls() {
		f.Add([]byte(joined(pieces([]api.Decl{d, sample.Numbers()}))))
	}
	f.Fuzz(func(t *testing.T, b []byte) {
		asTold(t, b)
		asTold(t, append([]byte("BTN1"), b...))
	})
}

// FuzzEncode: any declarations, held against the words. (R1)
func FuzzEncode(f *testing.F) {
	for k := range 10 {
		f.Add([]byte{1, 1, 0, 0, 2, byte(k), 1, 1}, []byte{2, byte(k), 0, 1, 3, 3, 1, 1, 4, 4, 2, 0, 2}, []byte{4, 0, 0, byte(k), 1, 1, 2, 2, 0, 1, 0, 2, 2, 0})
		f.Add([]byte{1, 1, 255, 0, 2, byte(k), 1, 1}, []byte{3, 1, 0, 1, byte(k), 3, 1, 1, 4, 4, 2, 0, 2}, []byte{4, 0, 0, 1, 2, 3, 2, 2, byte(k), 1, 0, 2, 2, 0})
	}
	f.Fuzz(func(t *testing.T, b, c, d []byte) {
		l := []api.Decl{grown(b), grown(c), grown(d), grown(b)}
		all := true
		for _, x := range l {
			if May(x) != mayBe(x) {
				t.Fatalf("May: %v", !mayBe(x))
			}
			all = all && mayBe(x)
		}
		if !all {
			noEncode(t, l, api.ErrArg)
			return
		}
		encodes(t, joined(pieces(l)), l...)
		if _, err := Decode(encoded(t, l)); errors.Is(err, api.ErrMany) {
			t.Fatal(err)
		}
	})
}
