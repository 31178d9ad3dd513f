// Package octet encodes numbers and byte strings as bytes: see doc/01-octet.md.
package octet

import (
	"bytes"

	"scriptory/api"
)

// widest is how many bytes the widest number has.
const widest = 8

// lenBytes is how many bytes tell the length of a byte string.
const lenBytes = 2

// Put returns b followed by the n lowest bytes of v, the lowest one first; n is clamped to what a number can have.
func Put(b []byte, v uint64, n int) []byte {
	n = min(max(n, 0), widest)
	out := make([]byte, len(b)+n)
	copy(out, b)
	setNumber(out[len(b):len(out):len(out)], v)
	return out
}

// Take returns the number in the n bytes of b from at on.
func Take(b []byte, at, n int) (v uint64, e api.Errno) {
	if at < 0 || n < 0 || n > widest {
		return 0, api.ErrArg
	}
	// Subtracted, since at + n may be more than an int holds; an at beyond the end leaves less than 0, so less than any n.
	if len(b)-at < n {
		return 0, api.ErrShort
	}
	return number(b[at : at+n : at+n]), api.OK
}

// Text returns b followed by the length of s and s itself.
func Text(b, s []byte) []byte {
	// Put's answer is new memory, so appending to it can't reach into b's.
	return append(Put(b, uint64(len(s)), lenBytes), s...)
}

// TakeText returns the byte string at the beginning of b, and how many bytes its encoding has.
func TakeText(b []byte, most int) (s []byte, n int, e api.Errno) {
	size, e := Take(b, 0, lenBytes)
	if e != api.OK {
		return nil, 0, e
	}
	if int(size) > most {
		return nil, 0, api.ErrLong
	}
	n = lenBytes + int(size)
	if len(b) < n {
		return nil, 0, api.ErrShort
	}
	return bytes.Clone(b[lenBytes:n:n]), n, api.OK
}

// setNumber fills w, of at most 8 bytes, with the lowest bytes of v.
func setNumber(w []byte, v uint64) {
	switch len(w) {
	case 8:
		w[7] = byte(v >> 56)
		fallthrough
	case 7:
		w[6] = byte(v >> 48)
		fallthrough
	case 6:
		w[5] = byte(v >> 40)
		fallthrough
	case 5:
		w[4] = byte(v >> 32)
		fallthrough
	case 4:
		w[3] = byte(v >> 24)
		fallthrough
	case 3:
		w[2] = byte(v >> 16)
		fallthrough
	case 2:
		w[1] = byte(v >> 8)
		fallthrough
	case 1:
		w[0] = byte(v)
	}
}

// number reads the number that w, of at most 8 bytes, holds.
func number(w []byte) (v uint64) {
	switch len(w) {
	case 8:
		v |= uint64(w[7]) << 56
		fallthrough
	case 7:
		v |= uint64(w[6]) << 48
		fallthrough
	case 6:
		v |= uint64(w[5]) << 40
		fallthrough
	case 5:
		v |= uint64(w[4]) << 32
		fallthrough
	case 4:
		v |= uint64(w[3]) << 24
		fallthrough
	case 3:
		v |= uint64(w[2]) << 16
		fallthrough
	case 2:
		v |= uint64(w[1]) << 8
		fallthrough
	case 1:
		v |= uint64(w[0])
	}
	return v
}
