package octet

import (
	"bytes"
	"math"
	"strings"
	"testing"

	"batten/api"
)

const top = math.MaxUint64

var (
	name32 = strings.Repeat("aZ9_.'xy", 4)
	name33 = name32 + "z"
)

// forms: numbers and the one form of each.
var forms = []struct {
	n uint64
	b string
}{
	{0, "\x00"},
	{1, "\x01"},
	{127, "\x7f"},
	{128, "\x80\x01"},
	{255, "\xff\x01"},
	{300, "\xac\x02"},
	{1<<14 - 1, "\xff\x7f"},
	{1 << 14, "\x80\x80\x01"},
	{1<<63 - 1, "\xff\xff\xff\xff\xff\xff\xff\xff\x7f"},
	{1 << 63, "\x80\x80\x80\x80\x80\x80\x80\x80\x80\x01"},
	{top - 1, "\xfe\xff\xff\xff\xff\xff\xff\xff\xff\x01"},
	{top, "\xff\xff\xff\xff\xff\xff\xff\xff\xff\x01"},
}

// noNumbers: bytes that no number begins.
var noNumbers = []string{
	"",
	"\x80",
	"\xff\xff",
	"\x80\x00",
	"\x81\x00",
	"\x80\x80\x00",
	"\xac\x82\x00?",
	"\xff\xff\xff\xff\xff\xff\xff\xff\xff",
	"\xff\xff\xff\xff\xff\xff\xff\xff\xff\x00",
	"\xff\xff\xff\xff\xff\xff\xff\xff\xff\x02",
	"\xff\xff\xff\xff\xff\xff\xff\xff\xff\x7f",
	"\x80\x80\x80\x80\x80\x80\x80\x80\x80\x81\x00",
	"\x80\x80\x80\x80\x80\x80\x80\x80\x80\x80\x01",
}

func wantBad(t *testing.T, r *Reader, at int, e api.Errno) {
	t.Helper()
	if a, f := r.Bad(); a != at || f != e {
		t.Errorf("Bad: %d, %d; want %d, %d", a, f, at, e)
	}
}

func wantPlace(t *testing.T, r *Reader, at, left int) {
	t.Helper()
	if r.At() != at || r.Left() != left {
		t.Errorf("At %d, Left %d; want %d, %d", r.At(), r.Left(), at, left)
	}
}

// P1.1

func TestPutForms(t *testing.T) {
	for _, f := range forms {
		if b := Put(nil, f.n); string(b) != f.b {
			t.Errorf("%d: %x, want %x", f.n, b, f.b)
		}
		if b := Put([]byte("ahead"), f.n); string(b) != "ahead"+f.b {
			t.Errorf("%d behind others: %x", f.n, b)
		}
	}
}

func TestPutIsNewMemory(t *testing.T) {
	room := []byte("ab##########################################")
	was := string(room)
	puts := map[string]func([]byte) []byte{
		"Put": func(b []byte) []byte { return Put(b, 300) },
		"PutName": func(b []byte) []byte {
			out, _ := PutName(b, name32)
			return out
		},
	}
	for which, put := range puts {
		out := put(room[:2])
		if string(room) != was {
			t.Errorf("%s wrote behind what it was handed: %q", which, room)
		}
		out[0] = '!'
		if string(room) != was {
			t.Errorf("%s answered what it was handed", which)
		}
		one, two := put(out), put(out)
		if one[1] = '!'; two[1] != 'b' {
			t.Errorf("%s answered one memory twice", which)
		}
	}
}

func TestNameOfEachByte(t *testing.T) {
	const may = "abcdefghijklmnopqrstuvwxyzABCDEFGHIJKLMNOPQRSTUVWXYZ0123456789_.'"
	for c := range 256 {
		one := string([]byte{byte(c)})
		want := strings.Contains(may, one)
		for _, s := range []string{one, one + "a", "a" + one, "a" + one + "a"} {
			if Name(s) != want {
				t.Errorf("%q: a name is %v", s, !want)
			}
		}
	}
}

func TestNameLengths(t *testing.T) {
	if len(name32) != api.MaxName {
		t.Fatal("the test's name has not MaxName bytes")
	}
	for s, want := range map[string]bool{"": false, "a": true, name32[:31]: true, name32: true, name33: false, name33 + name33: false} {
		if Name(s) != want {
			t.Errorf("%q: a name is %v", s, !want)
		}
	}
}

func TestPutName(t *testing.T) {
	for s, want := range map[string]string{"a": "\x01a", "Nat.rec": "\x07Nat.rec", "0": "\x010", name32: "\x20" + name32} {
		if b, e := PutName(nil, s); string(b) != want || e != api.OK {
			t.Errorf("%q: %x, %d", s, b, e)
		}
		if b, e := PutName([]byte{0xff, 0}, s); string(b) != "\xff\x00"+want || e != api.OK {
			t.Errorf("%q behind others: %x, %d", s, b, e)
		}
	}
	for _, s := range []string{"", "a-b", " a", "a\n", "\x00", "n\u00e4me", name33} {
		if b, e := PutName([]byte("ahead"), s); len(b) != 0 || e != api.ErrName {
			t.Errorf("%q: %x, %d", s, b, e)
		}
	}
}

// P1.2

func TestNumber(t *testing.T) {
	for _, f := range forms {
		for _, most := range []uint64{f.n, max(f.n, 1<<20), top} {
			r := New([]byte("?" + f.b + "!"))
			r.Byte()
			if n := r.Number(most); n != f.n {
				t.Errorf("%d: %d", f.n, n)
			}
			wantPlace(t, r, 1+len(f.b), 1)
			wantBad(t, r, 0, api.OK)
		}
		if f.n == 0 {
			continue
		}
		for _, most := range []uint64{0, f.n / 2, f.n - 1} {
			r := New([]byte("?" + f.b + "!"))
			r.Byte()
			if n := r.Number(most); n != 0 {
				t.Errorf("%d above %d: %d", f.n, most, n)
			}
			wantPlace(t, r, 1, len(f.b)+1)
			wantBad(t, r, 1, api.ErrMany)
		}
	}
}

func TestNoNumber(t *testing.T) {
	for _, s := range noNumbers {
		for _, most := range []uint64{0, top} { // that none stands there goes ahead of that it is above most
			r := New([]byte("ab" + s))
			r.Byte()
			r.Byte()
			if n := r.Number(most); n != 0 {
				t.Errorf("%x: %d", s, n)
			}
			wantPlace(t, r, 2, len(s))
			wantBad(t, r, 2, api.ErrBytes)
		}
	}
}

func TestByte(t *testing.T) {
	all := make([]byte, 256)
	for i := range all {
		all[i] = byte(i)
	}
	r := New(all)
	for i := range all {
		wantPlace(t, r, i, 256-i)
		if c := r.Byte(); c != byte(i) {
			t.Errorf("%d: %d", i, c)
		}
	}
	wantBad(t, r, 0, api.OK)
	if c := r.Byte(); c != 0 {
		t.Errorf("behind the last one: %d", c)
	}
	wantPlace(t, r, 256, 0)
	wantBad(t, r, 256, api.ErrBytes)
}

func TestReadName(t *testing.T) {
	for _, s := range []string{"a", "Nat.rec", "_", ".", "'", "9", name32} {
		r := New([]byte("?" + string(byte(len(s))) + s + "!"))
		r.Byte()
		if got := r.Name(); got != s {
			t.Errorf("%q: %q", s, got)
		}
		wantPlace(t, r, 2+len(s), 1)
		wantBad(t, r, 0, api.OK)
	}
}

func TestNoName(t *testing.T) {
	cases := []struct {
		s string
		e api.Errno
	}{
		{"\x01", api.ErrBytes},
		{"\x02a", api.ErrBytes},
		{"\x02-", api.ErrBytes}, // ahead of that these are no name
		{"\x20" + name32[1:], api.ErrBytes},
		{"\x21" + name33, api.ErrMany},
		{"\x21", api.ErrMany}, // ahead of fewer bytes
		{"\x80\x01", api.ErrMany},
		{"\xff\xff\xff\xff\xff\xff\xff\xff\xff\x01", api.ErrMany},
		{"\x00", api.ErrName},
		{"\x00a", api.ErrName},
		{"\x01-", api.ErrName},
		{"\x03a b", api.ErrName},
		{"\x03ab\x00", api.ErrName},
		{"\x20" + name32[1:] + "-", api.ErrName},
	}
	for _, s := range noNumbers {
		cases = append(cases, struct {
			s string
			e api.Errno
		}{s, api.ErrBytes})
	}
	for _, c := range cases {
		r := New([]byte("ab" + c.s))
		r.Byte()
		r.Byte()
		if s := r.Name(); s != "" {
			t.Errorf("%x: %q", c.s, s)
		}
		wantPlace(t, r, 2, len(c.s))
		wantBad(t, r, 2, c.e)
	}
}

func TestNewHasMemoryOfItsOwn(t *testing.T) {
	b := []byte("\x02ab\x05")
	r := New(b)
	clear(b)
	if s, n := r.Name(), r.Number(9); s != "ab" || n != 5 {
		t.Errorf("%q, %d", s, n)
	}
	b = []byte("\x02ab")
	New(b).Name()
	if string(b) != "\x02ab" {
		t.Errorf("what was handed in: %x", b)
	}
}

func TestReadersAreApart(t *testing.T) {
	b := []byte{1, 2}
	one, two := New(b), New(b)
	one.Byte()
	one.Fail(5, api.ErrPos)
	wantPlace(t, two, 0, 2)
	wantBad(t, two, 0, api.OK)
}

func TestNoBytes(t *testing.T) {
	for _, b := range [][]byte{nil, {}} {
		r := New(b)
		wantPlace(t, r, 0, 0)
		wantBad(t, r, 0, api.OK)
		if r.Byte() != 0 {
			t.Error("a byte of none")
		}
		wantBad(t, r, 0, api.ErrBytes)
	}
}

// P1.3

func TestFail(t *testing.T) {
	for _, e := range []api.Errno{api.ErrArg, api.ErrBytes, api.ErrEngine, 18, -1} {
		for _, at := range []int{0, 1, 2, 3, -7, math.MaxInt, math.MinInt} {
			r := New([]byte{1, 2})
			r.Fail(4, api.OK)
			wantBad(t, r, 0, api.OK)
			if c := r.Byte(); c != 1 {
				t.Errorf("a reader that is not bad: %d", c)
			}
			r.Fail(at, e)
			wantBad(t, r, at, e)
			wantPlace(t, r, 1, 1)
		}
	}
}

func TestBadStays(t *testing.T) {
	makers := map[string]struct {
		r  *Reader
		do func(*Reader)
		e  api.Errno
	}{
		"number": {New([]byte("?\x80\x00\x01a")), func(r *Reader) { r.Number(top) }, api.ErrBytes},
		"above":  {New([]byte("?\x01a\x01")), func(r *Reader) { r.Number(0) }, api.ErrMany},
		"byte":   {New([]byte("?")), func(r *Reader) { r.Byte() }, api.ErrBytes},
		"name":   {New([]byte("?\x01-\x01a")), func(r *Reader) { _ = r.Name() }, api.ErrName},
		"told":   {New([]byte("?\x01a\x01a")), func(r *Reader) { r.Fail(1, api.ErrVar) }, api.ErrVar},
	}
	for which, m := range makers {
		r := m.r
		r.Byte()
		m.do(r)
		at, left := r.At(), r.Left()
		for range 2 {
			if c, n, s := r.Byte(), r.Number(top), r.Name(); c != 0 || n != 0 || s != "" {
				t.Errorf("%s: read %d, %d, %q", which, c, n, s)
			}
			r.Fail(9, api.ErrPos)
			r.Fail(0, api.OK)
			wantBad(t, r, 1, m.e)
			wantPlace(t, r, at, left)
		}
	}
}

func TestNoReader(t *testing.T) {
	var r *Reader
	for range 2 {
		wantBad(t, r, 0, api.ErrArg)
		wantPlace(t, r, 0, 0)
		if c, n, s := r.Byte(), r.Number(top), r.Name(); c != 0 || n != 0 || s != "" {
			t.Errorf("read %d, %d, %q", c, n, s)
		}
		r.Fail(3, api.ErrPos)
		r.Fail(3, api.OK)
	}
}

// P1.4

func TestPutThenRead(t *testing.T) {
	var b []byte
	var ns []uint64
	for i := range 64 {
		for _, n := range []uint64{1<<i - 1, 1 << i, 1<<i + 1, 0x9e3779b97f4a7c15 >> i, top >> i} {
			ns = append(ns, n)
			b = Put(b, n)
		}
	}
	for i := range name32 {
		var e api.Errno
		if b, e = PutName(b, name32[i:]); e != api.OK {
			t.Fatal(e)
		}
	}
	r := New(b)
	for _, n := range ns {
		from := r.At()
		if got := r.Number(n); got != n || r.At() != from+len(Put(nil, n)) {
			t.Fatalf("%d: %d, from %d to %d", n, got, from, r.At())
		}
	}
	for i := range name32 {
		if got := r.Name(); got != name32[i:] {
			t.Fatalf("%q: %q", name32[i:], got)
		}
	}
	wantPlace(t, r, len(b), 0)
	wantBad(t, r, 0, api.OK)
}

// readPut holds what is read of b, put again, against b.
func readPut(t *testing.T, b []byte) (numbers, names int) {
	r := New(b)
	n := r.Number(top)
	if _, e := r.Bad(); e == api.OK {
		numbers++
		if back := Put(nil, n); !bytes.Equal(back, b[:r.At()]) {
			t.Fatalf("%x: the number %d, put again: %x", b, n, back)
		}
	}
	r = New(b)
	s := r.Name()
	if _, e := r.Bad(); e == api.OK {
		names++
		if back, e := PutName(nil, s); e != api.OK || !bytes.Equal(back, b[:r.At()]) {
			t.Fatalf("%x: the name %q, put again: %x, %d", b, s, back, e)
		}
	}
	return numbers, names
}

func TestReadThenPut(t *testing.T) {
	numbers, names := 0, 0
	count := func(b ...byte) {
		n, s := readPut(t, b)
		numbers += n
		names += s
	}
	for x := range 256 {
		count(byte(x))
		for y := range 256 {
			count(byte(x), byte(y))
			for z := range 256 {
				count(byte(x), byte(y), byte(z))
			}
		}
	}
	// Numbers begin with a byte below 128, or a second one from 1 to 127, or a third one so.
	wantNumbers := 128 + (128*256 + 128*127) + (128*256*256 + 128*127*256 + 128*128*127)
	wantNames := 65 + (65*256 + 65*65) // of one byte, alone and with any byte behind; of two
	if numbers != wantNumbers || names != wantNames {
		t.Errorf("%d numbers, %d names; want %d, %d", numbers, names, wantNumbers, wantNames)
	}
}

func FuzzRead(f *testing.F) {
	for _, c := range forms {
		f.Add([]byte(c.b))
	}
	for _, s := range noNumbers {
		f.Add([]byte(s))
	}
	f.Add([]byte("\x20" + name32))
	f.Fuzz(func(t *testing.T, b []byte) { readPut(t, b) })
}
