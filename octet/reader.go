package octet

import "batten/api"

// Reader of bytes.
type Reader struct {
	b   []byte
	at  int
	bad int // where the first error was
	err api.Errno
}

// New: a reader of bytes. (P1.2)
func New(b []byte) *Reader {
	return &Reader{b: append([]byte(nil), b...)}
}

// Number: the next number. (P1.2)
func (r *Reader) Number(most uint64) uint64 {
	if !r.good() {
		return 0
	}
	n, size := number(r.b[r.at:], most, r.stop)
	r.at += size
	return n
}

// Byte: the next byte. (P1.2)
func (r *Reader) Byte() byte {
	if !r.good() {
		return 0
	}
	if r.at == len(r.b) {
		r.stop(api.ErrBytes)
		return 0
	}
	c := r.b[r.at]
	r.at++
	return c
}

// Name: the next name. (P1.2)
func (r *Reader) Name() string {
	if !r.good() {
		return ""
	}
	s, size := name(r.b[r.at:], r.stop)
	r.at += size
	return s
}

// Left: how many bytes are left. (P1.2)
func (r *Reader) Left() int {
	if r == nil {
		return 0
	}
	return len(r.b) - r.at
}

// At: the reader's place. (P1.2)
func (r *Reader) At() int {
	if r == nil {
		return 0
	}
	return r.at
}

// Bad: where and which the first error was. (P1.3)
func (r *Reader) Bad() (at int, e api.Errno) {
	if r == nil {
		return 0, api.ErrArg
	}
	return r.bad, r.err
}

// Fail: an error. (P1.3)
func (r *Reader) Fail(at int, e api.Errno) {
	if e == api.OK || !r.good() {
		return
	}
	r.bad, r.err = at, e
}

// stop is where all reading ends that finds an error: what was to be read begins at the reader's place, and does not move it.
func (r *Reader) stop(e api.Errno) { r.Fail(r.at, e) }

// good: may more be read?
func (r *Reader) good() bool { return r != nil && r.err == api.OK }
