// Package wire is layer 1: it reads and writes numbers and strings with a length in bytes (see shared/doc/01-wire.md).
package wire

import "bytes"

// Reader reads numbers, bytes and strings, one after the other.
type Reader struct {
	rest []byte
	bad  bool
}

// New returns a reader of a copy of b.
func New(b []byte) *Reader { return &Reader{rest: bytes.Clone(b)} }

// Left returns the number of bytes that were not read yet.
func (r *Reader) Left() int {
	if r == nil {
		return 0
	}
	return len(r.rest)
}

// Bad reports whether a read has failed.
func (r *Reader) Bad() bool { return r == nil || r.bad }

// Done reports whether no read has failed and no bytes are left.
func (r *Reader) Done() bool { return !r.Bad() && r.Left() == 0 }

// Take reads the next n bytes.
func (r *Reader) Take(n int) []byte {
	if n < 0 {
		r.fail()
		return nil
	}
	return bytes.Clone(r.next(uint64(n)))
}

// Number reads a number of k bytes.
func (r *Reader) Number(k int) uint64 {
	if !isWidth(k) {
		r.fail()
		return 0
	}
	var x uint64
	for _, c := range r.next(uint64(k)) {
		x = x<<8 | uint64(c)
	}
	return x
}

// String reads a string with a length of k bytes.
func (r *Reader) String(k int) []byte {
	// If the length can't be read, it is 0, but then the reader is bad, and next fails too.
	return bytes.Clone(r.next(r.Number(k)))
}

// next reads n bytes and returns them without a copy. It takes n unsigned, because a length of 8 bytes need not fit in an int.
func (r *Reader) next(n uint64) []byte {
	if r.Bad() || n > uint64(len(r.rest)) {
		r.fail()
		return nil
	}
	b := r.rest[:n:n]
	r.rest = r.rest[n:]
	return b
}

// fail makes this read and all further ones fail.
func (r *Reader) fail() {
	if r != nil {
		r.rest, r.bad = nil, true
	}
}

// Number returns the number x in k bytes; false, if k is not from 1 to 8, or x does not fit.
func Number(k int, x uint64) ([]byte, bool) {
	// A shift by 64 leaves 0, so that every x fits in 8 bytes.
	if !isWidth(k) || x>>(8*k) != 0 {
		return nil, false
	}
	b := make([]byte, k)
	for i := range b {
		b[k-1-i] = byte(x >> (8 * i))
	}
	return b, true
}

// String returns the string b with a length of k bytes; false, if k is not from 1 to 8, or the length does not fit.
func String(k int, b []byte) ([]byte, bool) {
	length, ok := Number(k, uint64(len(b)))
	if !ok {
		return nil, false
	}
	return Join(length, b), true
}

// Join returns the bytes of all parts in order.
func Join(parts ...[]byte) []byte {
	size := 0
	for _, p := range parts {
		size += len(p)
	}
	all := make([]byte, 0, size)
	for _, p := range parts {
		all = append(all, p...)
	}
	return all
}

// isWidth reports whether numbers can have k bytes.
func isWidth(k int) bool { return 1 <= k && k <= 8 }
