package pack

import (
	"bytes"
	"hash/fnv"
	"testing"

	"outrider/api"
)

// bodyOf: so many bytes that are not all the same.
func bodyOf(long int) []byte {
	b := make([]byte, long)
	for i := range b {
		b[i] = byte(i*7 + i>>8)
	}
	return b
}

// sealOf: what a seal is said to be, whatever its body's length is.
func sealOf(body []byte) []byte {
	b := []byte{111, 117, 116, 114}
	for i := range 4 {
		b = append(b, byte(len(body)>>(8*i)))
	}
	for i := range 8 {
		b = append(b, byte(Sum(body)>>(8*i)))
	}
	return append(b, body...)
}

// P2.3
func TestSum(t *testing.T) {
	if s := Sum(nil); s != 14695981039346656037 {
		t.Errorf("Sum of nothing = %d", s)
	}
	if s := Sum([]byte("a")); s != 0xaf63dc4c8601ec8c {
		t.Errorf("Sum of a = %x", s)
	}
	for _, long := range []int{0, 1, 2, 255, 256, 70000} {
		h := fnv.New64a()
		h.Write(bodyOf(long))
		if s := Sum(bodyOf(long)); s != h.Sum64() {
			t.Errorf("Sum of %d bytes = %d; want %d", long, s, h.Sum64())
		}
	}
}

// P2.3
func TestSealAndOpen(t *testing.T) {
	for _, long := range []int{0, 1, 2, 255, 256, 257, 65536, api.MaxBytes - 1, api.MaxBytes} {
		body := bodyOf(long)
		b, e := Seal(body)
		if e != api.OK || !bytes.Equal(b, sealOf(body)) {
			t.Errorf("Seal of %d bytes: %d, %d bytes", long, e, len(b))
		}
		if x, e := Open(b); e != api.OK || !bytes.Equal(x, body) || cap(x) != len(x) {
			t.Errorf("Open of %d bytes: %d, %d bytes, room for %d", long, e, len(x), cap(x))
		}
	}
	b, _ := Seal([]byte("x"))
	wantBytes(t, "Seal of x", b, []byte{111, 117, 116, 114, 1, 0, 0, 0, 7, 23, 2, 134, 76, 245, 99, 175, 120})
}

// P2.3
func TestSealIsTooBig(t *testing.T) {
	for _, long := range []int{api.MaxBytes + 1, 2 * api.MaxBytes} {
		if b, e := Seal(make([]byte, long)); len(b) != 0 || e != api.ErrBig {
			t.Errorf("Seal of %d bytes: %d, %d bytes", long, e, len(b))
		}
		if b, e := Open(sealOf(make([]byte, long))); len(b) != 0 || e != api.ErrForm {
			t.Errorf("Open of %d bytes: %d, %d bytes", long, e, len(b))
		}
	}
}

// P2.3
func TestOpenRefuses(t *testing.T) {
	good := sealOf([]byte("body"))
	turned := func(at int, to byte) []byte {
		b := bytes.Clone(good)
		b[at] = to
		return b
	}
	for _, c := range []struct {
		what string
		b    []byte
		want api.Errno
	}{
		{"nothing", nil, api.ErrShort},
		{"15 bytes", good[:15], api.ErrShort},
		{"15 bytes that don't begin so", make([]byte, 15), api.ErrShort},
		{"16 bytes of noughts", make([]byte, 16), api.ErrForm},
		{"a head without its body", good[:16], api.ErrForm},
		{"a byte less", good[:19], api.ErrForm},
		{"a byte more", append(bytes.Clone(good), 0), api.ErrForm},
		{"another mark", turned(0, 'O'), api.ErrForm},
		{"another mark", turned(3, 's'), api.ErrForm},
		{"another length", turned(4, 5), api.ErrForm},
		{"a length of 2^24 more", turned(7, 1), api.ErrForm},
		{"a length of 2^31 more", turned(7, 128), api.ErrForm},
		{"another sum", turned(8, good[8]+1), api.ErrSum},
		{"another sum", turned(15, good[15]^128), api.ErrSum},
		{"another body", turned(16, 'B'), api.ErrSum},
		{"another body", turned(19, 'Y'), api.ErrSum},
	} {
		if b, e := Open(c.b); len(b) != 0 || e != c.want {
			t.Errorf("Open of %s: %v, %d; want %d", c.what, b, e, c.want)
		}
	}
	long := turned(4, 5)
	long[8]++
	if _, e := Open(long); e != api.ErrForm {
		t.Errorf("the sum was looked at ahead of the length: %d", e)
	}
}

// P2.4
func TestOneOtherByteIsNotOpened(t *testing.T) {
	good, _ := Seal([]byte("what is under a seal\x00\xff"))
	for at := range good {
		for more := 1; more < 256; more++ {
			b := bytes.Clone(good)
			b[at] += byte(more)
			if x, e := Open(b); len(x) != 0 || e == api.OK {
				t.Errorf("opened with %d instead of %d at %d", b[at], good[at], at)
			}
		}
	}
}

// Rule 5: what is answered is new memory, what is handed in stays.
func TestSealsShareNothing(t *testing.T) {
	spare := append(make([]byte, 0, 100), "body and more"...)
	body := spare[:4]
	b, _ := Seal(body)
	x, _ := Open(b)
	for i := range b {
		b[i] = 0
	}
	if string(body) != "body" || string(x) != "body" || string(spare) != "body and more" {
		t.Errorf("%q, %q, %q", body, x, spare)
	}
	b, _ = Seal(body)
	x, _ = Open(b)
	x[0] = 'B'
	if y, e := Open(b); string(y) != "body" || e != api.OK {
		t.Errorf("%q, %d", y, e)
	}
}
