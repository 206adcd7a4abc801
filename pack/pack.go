// Package pack is layer 2: see shared/doc/02-pack.md.
package pack

import (
	"bytes"
)

// Writer lays down bytes, one thing behind the other.
type Writer struct {
	laid []byte
}

// New: a writer that has laid down nothing.
func New() *Writer { return &Writer{} }

// Uint: a number from 0 on, seven bits a byte, the lowest first, 128 more in each but the last.
func (w *Writer) Uint(n uint64) {
	for n >= more {
		w.laid = append(w.laid, byte(n)|more)
		n >>= 7
	}
	w.laid = append(w.laid, byte(n))
}

// Int: a number n as 2n, or, below 0, as -2n - 1.
func (w *Writer) Int(n int64) {
	if n < 0 {
		w.Uint(^(uint64(n) << 1)) // -2n - 1 is 2n with each bit turned, and so never leaves the 64 bits
		return
	}
	w.Uint(uint64(n) << 1)
}

// Flag: a byte 1 or 0.
func (w *Writer) Flag(is bool) {
	if is {
		w.laid = append(w.laid, 1)
		return
	}
	w.laid = append(w.laid, 0)
}

// Text: how many bytes, and they.
func (w *Writer) Text(s string) {
	w.Uint(uint64(len(s)))
	w.laid = append(w.laid, s...)
}

// Ints: how many, and each.
func (w *Writer) Ints(l []int64) {
	w.Uint(uint64(len(l)))
	for _, n := range l {
		w.Int(n)
	}
}

// Bytes: all that was laid down, in new memory.
func (w *Writer) Bytes() []byte {
	return from(bytes.Clone(w.laid), 0)
}

// from: the part of b from a place on. A copy may have more room than it needs: that is cut off, so that nothing behind the length is handed out.
func from(b []byte, at int) []byte {
	return b[at:len(b):len(b)]
}
