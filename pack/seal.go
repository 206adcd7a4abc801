package pack

import (
	"bytes"

	"outrider/api"
)

const (
	mark     = "outr"
	sumAt    = len(mark) + 4
	headLong = sumAt + 8

	sumBegin = 14695981039346656037
	sumTimes = 1099511628211
)

// Sum: the FNV-1a sum of 64 bits.
func Sum(b []byte) uint64 {
	sum := uint64(sumBegin)
	for _, x := range b {
		sum = (sum ^ uint64(x)) * sumTimes
	}
	return sum
}

// Seal: a body with its mark, its length and its sum ahead.
func Seal(body []byte) ([]byte, api.Errno) {
	if len(body) > api.MaxBytes {
		return nil, api.ErrBig
	}
	b := make([]byte, headLong, headLong+len(body))
	copy(b, mark)
	putLow(b[len(mark):sumAt], uint64(len(body)))
	putLow(b[sumAt:headLong], Sum(body))
	return append(b, body...), api.OK
}

// Open: the body of a seal.
func Open(b []byte) ([]byte, api.Errno) {
	if len(b) < headLong {
		return nil, api.ErrShort
	}
	body := b[headLong:]
	if string(b[:len(mark)]) != mark || low(b[len(mark):sumAt]) != uint64(len(body)) || len(body) > api.MaxBytes {
		return nil, api.ErrForm
	}
	if low(b[sumAt:headLong]) != Sum(body) {
		return nil, api.ErrSum
	}
	return from(bytes.Clone(b), headLong), api.OK
}

// putLow: a number fills these bytes, the lowest one first.
func putLow(b []byte, n uint64) {
	for i := range b {
		b[i] = byte(n)
		n >>= 8
	}
}

// low: the number that putLow has put there.
func low(b []byte) uint64 {
	n := uint64(0)
	for i, x := range b {
		n |= uint64(x) << (8 * i)
	}
	return n
}
