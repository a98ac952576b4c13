// Package octet is layer 1: numbers as bytes, the highest first, and bytes held against each other (doc/01-octet.md).
package octet

import (
	"bytes"

	"heliograph/api"
)

// The bytes of a number of each kind.
const (
	size8  = 1
	size16 = 2
	size32 = 4
	size64 = 8
)

// place is where a Reader is among its bytes: at is the next one's, end is behind the last one.
type place struct {
	at, end int
}

// Reader is bytes, a place among them, and an error. Read makes one.
type Reader struct {
	place
	all []byte
	err api.Errno
}

// Put16 answers b, and behind it the two bytes of x (P1.1).
func Put16(b []byte, x uint16) []byte {
	return put(b, uint64(x), size16)
}

// Put32 answers b, and behind it the four bytes of x (P1.1).
func Put32(b []byte, x uint32) []byte {
	return put(b, uint64(x), size32)
}

// Put64 answers b, and behind it the eight bytes of x (P1.1).
func Put64(b []byte, x uint64) []byte {
	return put(b, x, size64)
}

// put does not append to b: the room behind b's end is its owner's.
func put(b []byte, x uint64, size int) []byte {
	out := make([]byte, len(b)+size)
	copy(out, b)
	for i := len(out) - 1; i >= len(b); i-- {
		out[i] = byte(x)
		x >>= 8
	}
	return out
}

// Equal answers whether both are the same bytes, and as many (P1.2).
func Equal(a, b []byte) bool {
	return bytes.Equal(a, b)
}

// Zero answers whether all bytes are 0 (P1.2).
func Zero(b []byte) bool {
	for _, x := range b {
		if x != 0 {
			return false
		}
	}
	return true
}

// Read answers a Reader that stands ahead of the first byte (P1.3). It reads from a copy, so that b stays its owner's to change.
func Read(b []byte) *Reader {
	return &Reader{place: place{end: len(b)}, all: fresh(b)}
}

// U8 reads a byte (P1.3).
func (r *Reader) U8() byte {
	return byte(r.number(size8))
}

// U16 reads a number of two bytes (P1.3).
func (r *Reader) U16() uint16 {
	return uint16(r.number(size16))
}

// U32 reads a number of four bytes (P1.3).
func (r *Reader) U32() uint32 {
	return uint32(r.number(size32))
}

// U64 reads a number of eight bytes (P1.3).
func (r *Reader) U64() uint64 {
	return r.number(size64)
}

// Raw reads n bytes (P1.3).
func (r *Reader) Raw(n int) []byte {
	return fresh(r.next(n))
}

// Left answers how many bytes are left (P1.3).
func (r *Reader) Left() int {
	if r == nil {
		return 0
	}
	return r.end - r.at
}

// Err answers the Reader's error (P1.3).
func (r *Reader) Err() api.Errno {
	if r == nil {
		return api.ErrNil
	}
	return r.err
}

func (r *Reader) number(size int) uint64 {
	var x uint64
	for _, b := range r.next(size) {
		x <<= 8
		x |= uint64(b)
	}
	return x
}

// next steps over n bytes and answers them, or nothing. They are the Reader's own memory, not to be handed out.
func (r *Reader) next(n int) []byte {
	if r.Err() != api.OK {
		return nil
	}
	if n < 0 {
		r.err = api.ErrArg
		return nil
	}
	// Held against what is left, not added to at: the sum of a great n would wrap round.
	if n > r.Left() {
		r.err = api.ErrShort
		return nil
	}
	from := r.at
	r.at += n
	return r.all[from:r.at]
}

func fresh(b []byte) []byte {
	out := make([]byte, len(b))
	copy(out, b)
	return out
}
