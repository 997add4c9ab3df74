package wire

import (
	"errors"
	"fmt"
	"slices"
	"strings"
	"testing"

	"batten/api"
	"batten/sample"
)

// P6.2

const (
	levZero = "\x00\x00\x00\x00\x00"
	levBad  = "\x01\x02\x00\x00\x00" // 1, or p(0) + 1: not in its form
	vrZero  = "\x02\x00"
)

func TestDecodeOfTheChapter(t *testing.T) {
	for _, b := range []string{"BTN1\x00\x00\x00\x00", "BTN1\x00\x00\x01\x02\x00\x00"} {
		if l, err := Decode([]byte(b)); len(l) != 0 || err != nil {
			t.Errorf("%q: %d declarations, %v", b, len(l), err)
		}
	}
	faulty(t, "BTN1\x00\x00\x01\x04\x00\x00\x00", 8, api.ErrNone)
}

// Entries that stand more than once, or in another order, or that nothing tells of.
func TestDecodeOfOtherTables(t *testing.T) {
	a, n := con("A", zero), con("B")
	for i, c := range []struct {
		b    string
		want []api.Decl
	}{
		{file([]string{"\x01A"}, nil, nil, nil), nil},
		{file(nil, []string{levZero, levZero, lev(param)}, nil, nil), nil},
		{file([]string{"\x01A", "\x01A", "\x01A"}, []string{levZero}, []string{vrZero, vrZero, "\x04\x00\x01", "\x04\x01\x00", "\x04\x02\x03"}, nil), nil},
		{
			file([]string{"\x01A", "\x01a", "\x01A", "\x01B"}, []string{levZero, lev(two), levZero}, []string{"\x03\x02\x01\x02", "\x03\x03\x00", "\x03\x00\x01\x00", "\x04\x00\x02", "\x02\x07", "\x04\x02\x00"},
				[]string{"\x01\x00\x01\x03", "\x02\x04\x01\x05\x01", "\x01\x00\x02\x03"}),
			[]api.Decl{axiom(0, "a", app(a, a)), def(4, "a", app(a, a), n), axiom(0, "A", app(a, a))},
		},
		{
			file([]string{"\x01A"}, nil, []string{vrZero, vrZero, vrZero}, []string{"\x03\x00\x00\x02\x01", "\x03\x00\x00\x00\x00"}),
			[]api.Decl{theorem(0, "A", vr(0), vr(0)), theorem(0, "A", vr(0), vr(0))},
		},
		{
			file([]string{"\x01A"}, nil, []string{vrZero}, []string{"\x04\x02\x01\x02\x00\x00\x01\x00\x00\x00\x00\x00"}),
			[]api.Decl{block(2, 1, ind("A", vr(0), ctor("A", vr(0))), ind("A", vr(0)))},
		},
	} {
		l := decoded(t, []byte(c.b))
		sameDecls(t, l, c.want)
		again := encoded(t, l)
		if string(again) != joined(pieces(c.want)) {
			t.Errorf("the one %d: encoded to %q", i, again)
		}
		sameDecls(t, decoded(t, again), c.want)
	}
}

// What the table of the chapter tells, line by line, each with what stands ahead as it must, and what stands behind: nothing, or what would be told later.
func TestFaults(t *testing.T) {
	for _, c := range []struct {
		b  string
		at int
		e  api.Errno
	}{
		// at 0
		{"", 0, api.ErrBytes},
		{"B", 0, api.ErrBytes},
		{"BTN", 0, api.ErrBytes},
		{"BTN2\x00\x00\x00\x00", 0, api.ErrBytes},
		{"btn1\x00\x00\x00\x00", 0, api.ErrBytes},
		{"TN1\x00\x00\x00\x00", 0, api.ErrBytes},
		{" BTN1\x00\x00\x00\x00", 0, api.ErrBytes},
		{strings.Repeat("\x00", api.MaxFile), 0, api.ErrBytes},
		{strings.Repeat("\x00", api.MaxFile+1), 0, api.ErrMany},
		{"BTN1\x00\x00\x00\x00" + strings.Repeat("\x00", api.MaxFile), 0, api.ErrMany},

		// how many of a table
		{"BTN1", 4, api.ErrBytes},
		{"BTN1\x80", 4, api.ErrBytes},
		{"BTN1\x80\x00", 4, api.ErrBytes},
		{"BTN1\x81\x20", 4, api.ErrMany},
		{"BTN1\xff\xff\xff\xff\xff\xff\xff\xff\xff\x01", 4, api.ErrMany},
		{"BTN1\xff\xff\xff\xff\xff\xff\xff\xff\xff\x02", 4, api.ErrBytes},
		{"BTN1\x00", 5, api.ErrBytes},
		{"BTN1\x00\x81\x20", 5, api.ErrMany},
		{"BTN1\x00\x00", 6, api.ErrBytes},
		{"BTN1\x00\x00\x81\x80\x04", 6, api.ErrMany},
		{"BTN1\x00\x00\x00", 7, api.ErrBytes},
		{"BTN1\x00\x00\x00\x81\x02", 7, api.ErrMany},

		// a name
		{"BTN1\x80\x20", 6, api.ErrBytes},
		{"BTN1\x01", 5, api.ErrBytes},
		{"BTN1\x01\x81", 5, api.ErrBytes},
		{"BTN1\x01\x02a", 5, api.ErrBytes},
		{"BTN1\x01\x00\x00\x00\x00", 5, api.ErrName},
		{"BTN1\x01\x03a-b\x00\x00\x00", 5, api.ErrName},
		{"BTN1\x01\x21a", 5, api.ErrMany},
		{"BTN1\x01\x21" + strings.Repeat("a", 33), 5, api.ErrMany},
		{"BTN1\x02\x01a\x01-", 7, api.ErrName},

		// a level
		{"BTN1\x00\x80\x20", 7, api.ErrBytes},
		{"BTN1\x00\x01", 6, api.ErrBytes},
		{"BTN1\x00\x01\x41\x00\x00\x00\x00", 6, api.ErrMany},
		{"BTN1\x00\x01\x00\x00\x42", 8, api.ErrMany},
		{"BTN1\x00\x01\x00\x00\x00\x00\x42", 10, api.ErrMany},
		{"BTN1\x00\x01\x00\x00\x00\x00\x80\x00", 10, api.ErrBytes},
		{"BTN1\x00\x01" + levBad + "\x00\x00", 6, api.ErrLevel},
		{"BTN1\x00\x01" + levBad, 6, api.ErrLevel},
		{"BTN1\x00\x02" + levZero + "\x40\x00\x00\x00\x41", 11, api.ErrLevel},
		{"BTN1\x00\x01\x01\x02\x00\x00\x42", 10, api.ErrMany}, // ahead of ErrLevel
		{"BTN1\x00\x01\x01\x02\x00\x00", 10, api.ErrBytes},

		// a term
		{"BTN1\x00\x00\x80\x80\x04", 9, api.ErrBytes},
		{"BTN1\x00\x00\x01", 7, api.ErrBytes},
		{"BTN1\x00\x00\x01\x00\x00", 7, api.ErrBytes},
		{"BTN1\x00\x00\x01\x09\x00", 7, api.ErrBytes},
		{"BTN1\x00\x00\x02" + vrZero + "\xff", 9, api.ErrBytes},
		{"BTN1\x00\x00\x01\x01", 8, api.ErrBytes},
		{"BTN1\x00\x00\x01\x01\x00", 8, api.ErrNone},
		{"BTN1\x00\x01" + levZero + "\x01\x01\x01", 13, api.ErrNone},
		{"BTN1\x00\x00\x01\x02", 8, api.ErrBytes},
		{"BTN1\x00\x00\x01\x02\x81\x80\x40", 8, api.ErrMany},
		{"BTN1\x00\x00\x01\x03", 8, api.ErrBytes},
		{"BTN1\x00\x00\x01\x03\x00\x00", 8, api.ErrNone},
		{"BTN1\x01\x01A\x00\x01\x03\x01\x05", 10, api.ErrNone},
		{"BTN1\x01\x01A\x00\x01\x03\x00", 11, api.ErrBytes},
		{"BTN1\x01\x01A\x00\x01\x03\x00\x05", 11, api.ErrMany},
		{"BTN1\x01\x01A\x00\x01\x03\x00\x01\x00", 12, api.ErrNone},
		{"BTN1\x01\x01A\x01" + levZero + "\x01\x03\x00\x04\x00\x00\x00\x01", 20, api.ErrNone},
		{"BTN1\x00\x00\x02" + vrZero + "\x04\x00\x01", 11, api.ErrNone},
		{"BTN1\x00\x00\x02" + vrZero + "\x05\x01\x00", 10, api.ErrNone},
		{"BTN1\x00\x00\x02" + vrZero + "\x06\x00", 11, api.ErrBytes},
		{"BTN1\x00\x00\x02" + vrZero + "\x07\x00\x00\x01", 12, api.ErrNone},
		{"BTN1\x00\x00\x02" + vrZero + "\x07\x00\x00\x80\x00", 12, api.ErrBytes},
		{"BTN1\x00\x00\x03" + vrZero + "\x05\x00\x02" + vrZero, 11, api.ErrNone}, // of a later one
		{"BTN1\x00\x00\x02" + vrZero + "\x08\x00\x00\x00", 10, api.ErrNone},
		{"BTN1\x01\x01S\x00\x02" + vrZero + "\x08\x00\x0c\x00", 13, api.ErrMany},
		{"BTN1\x01\x01S\x00\x02" + vrZero + "\x08\x00\x0b\x01", 14, api.ErrNone},
		{"BTN1\x00\x00\x01\x04\xff\xff\xff\xff\xff\xff\xff\xff\xff\x01\x00", 8, api.ErrNone},
		{"BTN1\x00\x00\x01\x04\xff\xff\xff\xff\xff\xff\xff\xff\xff\x02\x00", 8, api.ErrBytes},

		// a declaration
		{"BTN1\x00\x00\x00\x80\x02", 9, api.ErrBytes},
		{"BTN1\x00\x00\x00\x01", 8, api.ErrBytes},
		{"BTN1\x00\x00\x00\x01\x00\x00", 8, api.ErrBytes},
		{"BTN1\x00\x00\x00\x01\x05\x04", 8, api.ErrBytes},
		{"BTN1\x00\x00\x00\x01\x05\x00more", 8, api.ErrBytes},
		{"BTN1\x00\x00\x00\x01\x05\x05", 8, api.ErrBytes},
		{"BTN1\x00\x00\x00\x01\x05", 8, api.ErrBytes},
		{"BTN1\x00\x00\x00\x01\x00", 8, api.ErrBytes},
		{"BTN1\x00\x00\x00\x01\x01", 9, api.ErrBytes},
		{"BTN1\x00\x00\x00\x01\x01\x05", 9, api.ErrMany},
		{"BTN1\x00\x00\x00\x01\x01\x00", 10, api.ErrBytes},
		{"BTN1\x00\x00\x00\x01\x01\x00\x00\x00", 10, api.ErrNone},
		{"BTN1\x01\x01a\x00\x00\x01\x01\x00\x00\x00", 13, api.ErrNone},
		{"BTN1\x01\x01a\x00\x01" + vrZero + "\x01\x02\x04\x00\x00\x01", 16, api.ErrNone},
		{"BTN1\x01\x01a\x00\x01" + vrZero + "\x01\x03\x04\x00\x01\x01", 15, api.ErrNone},
		{"BTN1\x01\x01a\x00\x01" + vrZero + "\x01\x03\x04\x00\x00", 16, api.ErrBytes},
		{"BTN1\x01\x01a\x00\x01" + vrZero + "\x02\x01\x00\x00\x00\x01\x00\x01\x00", 18, api.ErrNone},
		{"BTN1\x00\x00\x00\x01\x04\x00\x0d\x01", 10, api.ErrMany},
		{"BTN1\x00\x00\x00\x01\x04\x00\x0c", 11, api.ErrBytes},
		{"BTN1\x00\x00\x00\x01\x04\x00\x0c\x04", 11, api.ErrMany},
		{"BTN1\x00\x00\x00\x01\x04\x00\x0c\x00", 8, api.ErrArg},
		{"BTN1\x00\x00\x00\x01\x04\x00\x0c\x00\x00", 8, api.ErrArg},
		{"BTN1\x00\x00\x00\x02\x04\x00\x0c\x00\x09", 8, api.ErrArg},
		{"BTN1\x00\x00\x00\x01\x04\x00\x0d\x00", 10, api.ErrMany}, // ahead of ErrArg
		{"BTN1\x00\x00\x00\x01\x04\x05\x00\x00", 9, api.ErrMany},
		{"BTN1\x00\x00\x00\x01\x04\x00\x00\x80\x00", 11, api.ErrBytes},
		{"BTN1\x01\x01a\x00\x01" + vrZero + "\x01\x04\x00\x00\x01\x01\x00\x00", 16, api.ErrNone},
		{"BTN1\x01\x01a\x00\x01" + vrZero + "\x01\x04\x00\x00\x01\x00\x01\x00", 17, api.ErrNone},
		{"BTN1\x01\x01a\x00\x01" + vrZero + "\x01\x04\x00\x00\x01\x00\x00\x09", 18, api.ErrMany},
		{"BTN1\x01\x01a\x00\x01" + vrZero + "\x01\x04\x00\x00\x01\x00\x00\x02\x00\x00\x00\x01", 22, api.ErrNone},
		{"BTN1\x01\x01a\x00\x01" + vrZero + "\x01\x04\x00\x00\x02\x00\x00\x00\x01\x00\x00", 19, api.ErrNone},
		{"BTN1\x01\x01a\x00\x01" + vrZero + "\x01\x04\x00\x00\x02\x00\x00\x00", 19, api.ErrBytes},

		// the end
		{"BTN1\x00\x00\x00\x00\x00", 8, api.ErrBytes},
		{"BTN1\x00\x00\x00\x00BTN1\x00\x00\x00\x00", 8, api.ErrBytes},
		{"BTN1\x01\x01a\x00\x01" + vrZero + "\x01\x01\x00\x00\x00\xff", 16, api.ErrBytes},
	} {
		faulty(t, c.b, c.at, c.e)
	}
}

// The first byte that fails is told, whatever fails behind it.
func TestTheFirstFault(t *testing.T) {
	parts := []string{"BTN1", "\x01\x01a", "\x01" + levZero, "\x01" + vrZero, "\x01\x01\x00\x00\x00", ""}
	bad := []string{"BTN2", "\x01\x01-", "\x01" + levBad, "\x01\x09", "\x01\x04\x00\x00\x00", "\x00"}
	into := []int{0, 1, 1, 1, 1, 0}
	es := []api.Errno{api.ErrBytes, api.ErrName, api.ErrLevel, api.ErrBytes, api.ErrArg, api.ErrBytes}
	for bits := 1; bits < 1<<len(parts); bits++ {
		var b string
		at := -1
		var e api.Errno
		for i := range parts {
			if bits>>i&1 == 0 {
				b += parts[i]
				continue
			}
			if at < 0 {
				at, e = len(b)+into[i], es[i]
			}
			b += bad[i]
		}
		faulty(t, b, at, e)
	}
}

// spoiled: a file with all kinds of pieces in it.
func spoiled() []api.Decl {
	return []api.Decl{
		sample.Numbers(),
		axiom(4, "a", con("A", zero, two, param, zero)),
		def(1, "d", pi(srt(two), lam(vr(300), vr(1<<20))), let(con("A"), vr(2), prj("N", 11, vr(1)))),
		theorem(0, sample.Name32, app(con("A", zero), con("B", api.Level{C: 64, P: [api.MaxParams]int{63, -1, -1, 0}})), srt(api.Level{P: [api.MaxParams]int{64, 64, 64, 64}})),
		block(4, 12, ind("T", vr(0)), ind("U", vr(1), ctor("u", vr(0)), ctor("v", vr(1))), ind("V", vr(2), ctor("w", srt(two)))),
	}
}

// Bytes cut at each place: what is cut, or is not there, fails where it begins.
func TestDecodeOfCutBytes(t *testing.T) {
	for _, l := range [][]api.Decl{nil, {sample.Numbers()}, spoiled(), sample.Decls()} {
		at := 0
		p := pieces(l)
		all := joined(p)
		for _, x := range p {
			for n := range len(x.b) {
				want := at
				if x.is == letter {
					want = 0
				}
				faulty(t, all[:at+n], want, api.ErrBytes)
			}
			at += len(x.b)
		}
		for c := range 256 {
			faulty(t, all+string([]byte{byte(c)}), at, api.ErrBytes)
		}
		faulty(t, all+all, at, api.ErrBytes)
	}
}

// wrongs: what may stand in the place of a piece that is told then, and by which errors.
func wrongs(p piece) map[string]api.Errno {
	out := map[string]api.Errno{}
	over := []string{num(p.most + 1), num(p.most + 128), num(1 << 62), "\xff\xff\xff\xff\xff\xff\xff\xff\xff\x01"}
	switch p.is {
	case number, where:
		for _, s := range []string{"\x80\x00", "\x80\x80\x00", "\xff\xff\xff\xff\xff\xff\xff\xff\xff\x02", "\x80\x80\x80\x80\x80\x80\x80\x80\x80\x80\x01"} {
			out[s] = api.ErrBytes
		}
		for _, s := range over {
			out[s] = api.ErrMany
			if p.is == where {
				out[s] = api.ErrNone
			}
		}
		if p.is == where {
			out[num(p.most)] = api.ErrNone
		}
	case name:
		for _, s := range []string{"\x00", "\x01-", "\x03a b", "\x02a\x00", "\x02\xc3\xa4", "\x20" + strings.Repeat("a", 31) + "-"} {
			out[s] = api.ErrName
		}
		for _, s := range []string{"\x21", str(sample.Name33), "\xff\x7f", "\xff\xff\xff\xff\xff\xff\xff\xff\xff\x01"} {
			out[s] = api.ErrMany
		}
		out["\x81\x00a"] = api.ErrBytes
	case kind:
		for c := p.most + 1; c < 256; c++ {
			out[string([]byte{byte(c)})] = api.ErrBytes
		}
		out["\x00"] = api.ErrBytes
	case letter:
		out["?"] = api.ErrBytes
		out[""] = api.ErrBytes
	}
	return out
}

// What stands behind a kind that is none is not within the entry, so that it does not fail ahead of it, whatever it is.
func TestDecodeOfKindsThatAreNone(t *testing.T) {
	p := pieces(spoiled())
	at := 0
	kinds := map[uint8]int{} // how many there are, by the last one that may be
	for i, x := range p {
		if x.is == kind {
			kinds[uint8(x.most)]++
			ahead, behind := joined(p[:i]), joined(p[i+1:])
			for s := range wrongs(x) {
				for _, b := range []string{"", "\x00", "\x05", "\x80", "\x80\x00", "\x7f", "\xff\xff\xff\xff\xff\xff\xff\xff\xff\x01", behind, "\x05" + behind} {
					faulty(t, ahead+s+b, at, api.ErrBytes)
				}
			}
		}
		at += len(x.b)
	}
	if kinds[api.Block] != len(spoiled()) || kinds[api.Proj] < 8 {
		t.Errorf("only %v kinds", kinds)
	}
}

// Each piece is spoiled in each way, all others as they must be.
func TestDecodeOfSpoiledBytes(t *testing.T) {
	p := pieces(spoiled())
	many := 0
	at := 0
	for i, x := range p {
		ahead, behind := joined(p[:i]), joined(p[i+1:])
		for s, e := range wrongs(x) {
			want := at
			if x.is == letter {
				want = 0
			}
			faulty(t, ahead+s+behind, want, e)
			many++
		}
		at += len(x.b)
	}
	if many < 3000 {
		t.Errorf("only %d ways", many)
	}
}

// Entries as many as a table may have, and one more: of those of which nothing tells, and that are the same.
func TestDecodeUpToTheTables(t *testing.T) {
	a := file([]string{"\x01a"}, nil, []string{vrZero}, slices.Repeat([]string{"\x01\x00\x00\x00"}, 256))
	sameDecls(t, decoded(t, []byte(a)), decls(256, axiom(0, "a", vr(0))))
	for i, c := range []struct {
		entry string
		most  int
	}{{"\x01a", 4096}, {levZero, 4096}, {vrZero, 65536}} {
		for _, n := range []int{c.most - 1, c.most, c.most + 1} {
			var all [4][]string
			all[i] = slices.Repeat([]string{c.entry}, n)
			b := file(all[0], all[1], all[2], all[3])
			if n > c.most {
				faulty(t, b, 4+i, api.ErrMany)
				continue
			}
			if l := decoded(t, []byte(b)); len(l) != 0 {
				t.Errorf("%d declarations", len(l))
			}
			faulty(t, strings.TrimSuffix(b, strings.Repeat("\x00", 3-i)), len(b)-3+i, api.ErrBytes)
		}
	}
	b := file([]string{"\x01a"}, nil, []string{vrZero}, slices.Repeat([]string{"\x01\x00\x00\x00"}, 257))
	faulty(t, b, 11, api.ErrMany)
}

// Places up to the end of full tables.
func TestDecodeOfTheLastPlaces(t *testing.T) {
	var names, levels, terms []string
	for i := range 4096 {
		names = append(names, str(fmt.Sprint("n", i)))
		levels = append(levels, lev(api.Level{P: [api.MaxParams]int{i % 64, i / 64, -1, -1}}))
	}
	for range 65534 {
		terms = append(terms, vrZero)
	}
	last := append(slices.Clone(terms), "\x03"+num(4095)+"\x01"+num(4095), "\x04"+num(65534)+num(0))
	b := file(names, levels, last, []string{"\x01\x00" + num(4095) + num(65535)})
	want := []api.Decl{axiom(0, "n4095", app(con("n4095", api.Level{P: [api.MaxParams]int{63, 63, -1, -1}}), vr(0)))}
	sameDecls(t, decoded(t, []byte(b)), want)
	for _, c := range []struct {
		s string
		n int // bytes from the wrong one on
	}{
		{"\x01\x00" + num(4096) + num(65535), 5},
		{"\x01\x00" + num(4095) + num(65536), 3},
	} {
		b := file(names, levels, last, []string{c.s})
		faulty(t, b, len(b)-c.n, api.ErrNone)
	}
	for _, c := range []struct {
		s string
		n int
	}{
		{"\x03" + num(4096) + "\x01" + num(4095), 5},
		{"\x03" + num(4095) + "\x01" + num(4096), 2},
		{"\x04" + num(65535) + num(0), 4},
		{"\x04" + num(0) + num(65535), 3},
	} {
		b := file(names, levels, append(slices.Clone(terms), vrZero, c.s), nil)
		faulty(t, b, len(b)-1-c.n, api.ErrNone)
	}
}

// Terms that grow: each is told where it begins.
func TestDecodeUpToTheLimitsOfTerms(t *testing.T) {
	const decl = "\x01\x00\x00"
	for _, c := range []struct {
		first string
		step  func(last int) string // what is behind it
		most  int                   // how many of them may be
	}{
		{vrZero, func(n int) string { return "\x04" + num(n) + num(0) }, 256},
		{vrZero, func(n int) string { return "\x04" + num(0) + num(n) }, 256},
		{vrZero, func(n int) string { return "\x05" + num(n) + num(0) }, 256},
		{vrZero, func(n int) string { return "\x06" + num(0) + num(n) }, 256},
		{vrZero, func(n int) string { return "\x07" + num(n) + num(0) + num(0) }, 256},
		{vrZero, func(n int) string { return "\x07" + num(0) + num(n) + num(0) }, 256},
		{vrZero, func(n int) string { return "\x07" + num(0) + num(0) + num(n) }, 256},
		{vrZero, func(n int) string { return "\x08\x00\x00" + num(n) }, 256},
		{"\x03\x00\x00", func(n int) string { return "\x04" + num(n) + num(n) }, 12},          // 4095 nodes
		{"\x03\x00\x00", func(n int) string { return "\x07" + num(n) + num(n) + num(n) }, 8},  // 3280 nodes
		{"\x03\x00\x00", func(n int) string { return "\x07" + num(n) + num(0) + num(n) }, 11}, // 4094 nodes
	} {
		terms := []string{c.first}
		for range c.most - 1 {
			terms = append(terms, c.step(len(terms)-1))
		}
		l := decoded(t, []byte(file([]string{"\x01a"}, nil, terms, []string{decl + num(len(terms)-1)})))
		if len(l) != 1 || !May(l[0]) {
			t.Fatalf("%d declarations, or one that may not be", len(l))
		}
		at := len("BTN1\x01\x01a\x00") + len(num(len(terms)+1)) + len(strings.Join(terms, ""))
		more := c.step(len(terms) - 1)
		for _, behind := range [][]string{nil, {"\x09"}} {
			faulty(t, file([]string{"\x01a"}, nil, append(append(slices.Clone(terms), more), behind...), []string{decl + num(0)}), at, api.ErrMany)
		}
		own := more[:len(more)-1] + num(len(terms)) // an error within it goes ahead
		if more[len(more)-1] == 0 {
			faulty(t, file([]string{"\x01a"}, nil, append(slices.Clone(terms), own), nil), at+len(more)-1, api.ErrNone)
		}
	}
}

// Just MaxTerm nodes, and one more.
func TestDecodeUpToMaxTerm(t *testing.T) {
	terms := []string{vrZero}
	for i := range 11 {
		terms = append(terms, "\x04"+num(i)+num(i))
	}
	ahead := len("BTN1\x01\x01a\x00\x0d") + len(strings.Join(terms, ""))
	for _, c := range []struct {
		s  string
		ok bool
	}{
		{"\x08\x00\x00\x0b", true},  // 4096
		{"\x04\x0b\x00", false},     // 4097
		{"\x04\x0a\x0a", true},      // 4095
		{"\x07\x0a\x0a\x00", true},  // 4096
		{"\x07\x0a\x0a\x01", false}, // 4098
	} {
		b := file([]string{"\x01a"}, nil, append(slices.Clone(terms), c.s), []string{"\x01\x00\x00\x0c"})
		if !c.ok {
			faulty(t, b, ahead, api.ErrMany)
			continue
		}
		if l := decoded(t, []byte(b)); len(l) != 1 || !mayBe(l[0]) {
			t.Errorf("%q: %d declarations", c.s, len(l))
		}
	}
}

// What is handed in stays as it is, and says nothing later. (R3)
func TestDecodeTurnsNothing(t *testing.T) {
	b := encoded(t, sample.Decls())
	room := append(slices.Clone(b), "room"...)
	was := string(room)
	l := decoded(t, room[:len(b)])
	again := decoded(t, room[:len(b)])
	if string(room) != was {
		t.Error("turned")
	}
	clear(room)
	sameDecls(t, l, sample.Decls())
	for i := range l {
		for j := range l[i].Inds {
			for k := range l[i].Inds[j].Ctors {
				l[i].Inds[j].Ctors[k].Name = "?"
			}
			clear(l[i].Inds[j].Ctors)
			_ = append(l[i].Inds[j].Ctors, ctor("?", vr(0)))
		}
		clear(l[i].Inds)
		_ = append(l[i].Inds, ind("?", vr(0)))
	}
	clear(l)
	sameDecls(t, again, sample.Decls())
}

func TestFault(t *testing.T) {
	for _, f := range []*Fault{{At: 8, Err: api.ErrNone}, {At: 0, Err: api.ErrMany}, {}, {At: -1, Err: -7}} {
		if f.Error() == "" || f.Unwrap() != error(f.Err) || !errors.Is(f, f.Err) || errors.Is(f, api.ErrVar) {
			t.Errorf("%d, %d: %q, %v", f.At, f.Err, f.Error(), f.Unwrap())
		}
	}
	var none *Fault
	if none.Error() != "" || none.Unwrap() != nil || errors.Is(none, api.ErrBytes) {
		t.Errorf("of none: %q, %v", none.Error(), none.Unwrap())
	}
}
