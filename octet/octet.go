// Package octet is layer 1: see shared/doc/01-octet.md.
package octet

import "batten/api"

const (
	more    = 1 << 7 // set in a byte of a number, if more bytes come behind it
	longest = 10     // bytes of a number
)

// Put: bytes with a number behind them. (P1.1)
func Put(b []byte, n uint64) []byte {
	out := append(make([]byte, 0, len(b)+longest), b...)
	for n >= more {
		out = append(out, byte(n)|more)
		n >>= 7
	}
	return append(out, byte(n))
}

// Name: is a text a name? (P1.1)
func Name(s string) bool {
	if len(s) == 0 || len(s) > api.MaxName {
		return false
	}
	for i := range len(s) {
		if !inName(s[i]) {
			return false
		}
	}
	return true
}

// PutName: bytes with a name behind them. (P1.1)
func PutName(b []byte, s string) ([]byte, api.Errno) {
	if !Name(s) {
		return nil, api.ErrName
	}
	return append(Put(b, uint64(len(s))), s...), api.OK
}

// inName: may a byte stand in a name?
func inName(c byte) bool {
	switch {
	case 'a' <= c && c <= 'z':
		fallthrough
	case 'A' <= c && c <= 'Z':
		fallthrough
	case '0' <= c && c <= '9':
		fallthrough
	case c == '_', c == '.', c == '\'':
		return true
	}
	return false
}

// bits: the number that b begins with, and how many bytes it has; none, if no number stands there in its one form.
func bits(b []byte) (n uint64, size int) {
	for i, c := range b {
		last := i == longest-1
		if last && c != 1 { // any other one goes beyond 64 bits, or has a shorter form
			return 0, 0
		}
		n |= uint64(c&^more) << (7 * uint(i))
		if c >= more {
			continue
		}
		if c == 0 && i > 0 { // a shorter form is the one
			return 0, 0
		}
		return n, i + 1
	}
	return 0, 0
}

// number: the number that b begins with, and how many bytes it has; none, if stop was told why not.
func number(b []byte, most uint64, stop func(api.Errno)) (n uint64, size int) {
	n, size = bits(b)
	if size == 0 {
		stop(api.ErrBytes)
		return 0, 0
	}
	if n > most {
		stop(api.ErrMany)
		return 0, 0
	}
	return n, size
}

// name: the name that b begins with, and how many bytes it has; none, if stop was told why not.
func name(b []byte, stop func(api.Errno)) (s string, size int) {
	n, from := number(b, api.MaxName, stop)
	if from == 0 {
		return "", 0
	}
	size = from + int(n)
	if size > len(b) {
		stop(api.ErrBytes)
		return "", 0
	}
	s = string(b[from:size])
	if !Name(s) {
		stop(api.ErrName)
		return "", 0
	}
	return s, size
}
