package pack

import (
	"bytes"

	"outrider/api"
)

const (
	more     = 1 << 7 // in a byte of a number: another one follows
	lastByte = 9      // the place of a number's tenth byte, which has room for one bit
)

// Reader takes up what a Writer laid down; behind the first error nothing more.
type Reader struct {
	left []byte
	fail api.Errno
}

// Read: a reader of these bytes.
func Read(b []byte) *Reader {
	return &Reader{left: bytes.Clone(b)} // a copy, since the caller may change them while they are read
}

// Uint: the next number from 0 on; it has no byte 0 behind the first one, and fits into 64 bits.
func (r *Reader) Uint() uint64 { return whole(r, r.takeUint) }

// Int: the next number.
func (r *Reader) Int() int64 { return whole(r, r.takeInt) }

// Flag: the next byte, 1 or 0.
func (r *Reader) Flag() bool { return whole(r, r.takeFlag) }

// Count: the next number from 0 on, of things that take least bytes each (below 1: 1).
func (r *Reader) Count(least int) int {
	return whole(r, func() int { return r.takeCount(max(least, 1)) })
}

// Text: the next text.
func (r *Reader) Text() string { return whole(r, r.takeText) }

// Ints: the next list.
func (r *Reader) Ints() []int64 { return whole(r, r.takeInts) }

// Left: how many bytes are left; none behind an error.
func (r *Reader) Left() int { return len(r.left) }

// Fail: the first error so far.
func (r *Reader) Fail() api.Errno { return r.fail }

// End: the first error; ErrForm, if bytes are left.
func (r *Reader) End() api.Errno {
	if r.fail == api.OK && len(r.left) > 0 {
		return api.ErrForm
	}
	return r.fail
}

// whole: what take takes up, or, if it gives up somewhere within, nothing at all.
func whole[T any](r *Reader, take func() T) (got T) {
	if r.fail != api.OK {
		return got
	}
	defer func() {
		if e, is := recover().(api.Errno); is {
			r.left, r.fail = nil, e
		}
	}()
	return take()
}

// giveUp goes straight back to whole, from however deep within a list.
func giveUp(e api.Errno) {
	panic(e)
}

// part: the next so many bytes.
func (r *Reader) part(many int) []byte {
	if many > len(r.left) {
		giveUp(api.ErrShort)
	}
	p := r.left[:many:many]
	r.left = r.left[many:]
	return p
}

func (r *Reader) takeUint() uint64 {
	n := uint64(0)
	for i := 0; ; i++ {
		b := r.part(1)[0]
		if i == lastByte && b > 1 || i > 0 && b == 0 {
			giveUp(api.ErrForm)
		}
		n |= uint64(b%more) << (7 * i)
		if b < more {
			return n
		}
	}
}

func (r *Reader) takeInt() int64 {
	n := r.takeUint()
	half := int64(n >> 1)
	if n%2 == 1 {
		return ^half
	}
	return half
}

func (r *Reader) takeFlag() bool {
	b := r.part(1)[0]
	if b > 1 {
		giveUp(api.ErrForm)
	}
	return b == 1
}

func (r *Reader) takeCount(least int) int {
	n := r.takeUint()
	if n > uint64(len(r.left)/least) {
		giveUp(api.ErrShort)
	}
	return int(n)
}

func (r *Reader) takeText() string {
	return string(r.part(r.takeCount(1)))
}

func (r *Reader) takeInts() []int64 {
	l := make([]int64, r.takeCount(1))
	for i := range l {
		l[i] = r.takeInt()
	}
	return l
}
