package ins

import (
	"bytes"
	"encoding/binary"
	"math"
	"math/rand"
	"slices"
	"testing"

	"outrider/api"
)

// alone: the bytes of one instruction and an InsHalt behind it.
func alone(b ...byte) []byte {
	return append(append([]byte{2}, b...), 1)
}

// P8.4: the bytes of each kind
func TestEncode(t *testing.T) {
	for _, c := range []struct {
		x api.Ins
		b []byte
	}{
		{api.Ins{Kind: api.InsHalt}, []byte{1}},
		{api.Ins{Kind: api.InsConst, A: 3, K: -1}, []byte{2, 3, 1}},
		{api.Ins{Kind: api.InsConst, A: 15, K: 150}, []byte{2, 15, 172, 2}},
		{api.Ins{Kind: api.InsConst, K: math.MinInt64}, []byte{2, 0, 255, 255, 255, 255, 255, 255, 255, 255, 255, 1}},
		{api.Ins{Kind: api.InsConst, K: math.MaxInt64}, []byte{2, 0, 254, 255, 255, 255, 255, 255, 255, 255, 255, 1}},
		{api.Ins{Kind: api.InsMove, A: 4, B: 5}, []byte{3, 4, 5}},
		{api.Ins{Kind: api.InsOne, Op: api.OpNot, A: 4, B: 5}, []byte{4, 21, 4, 5}},
		{api.Ins{Kind: api.InsTwo, Op: api.OpMax, A: 4, B: 5, C: 6}, []byte{5, 18, 4, 5, 6}},
		{api.Ins{Kind: api.InsTwo, Op: api.OpAdd}, []byte{5, 1, 0, 0, 0}},
		{api.Ins{Kind: api.InsLoad, A: 4, B: 5, K: 6}, []byte{6, 4, 5, 12}},
		{api.Ins{Kind: api.InsStore, A: 4, B: 5, K: -6}, []byte{7, 4, 5, 11}},
		{api.Ins{Kind: api.InsInto, A: 4, C: 3}, []byte{8, 4, 3}},
		{api.Ins{Kind: api.InsEmit, A: 4}, []byte{9, 4}},
		{api.Ins{Kind: api.InsJump, K: 1}, []byte{10, 2}},
		{api.Ins{Kind: api.InsZero, A: 4, K: 1}, []byte{11, 4, 2}},
		{api.Ins{Kind: api.InsOther, A: 4, K: 0}, []byte{12, 4, 0}},
		{api.Ins{Kind: api.InsFail, A: 4}, []byte{13, 4}},
	} {
		l := []api.Ins{c.x, {Kind: api.InsHalt}}
		if b, e := Encode(l, 4); e != api.OK || !bytes.Equal(b, alone(c.b...)) {
			t.Errorf("Encode(%+v) = %v, %d; not %v", c.x, b, e, alone(c.b...))
		}
		if back, e := Decode(alone(c.b...), 4); e != api.OK || !slices.Equal(back, l) {
			t.Errorf("Decode(%v) = %v, %d; not %v", alone(c.b...), back, e, l)
		}
	}
	l := []api.Ins{{Kind: api.InsConst, A: 3, K: -1}, {Kind: api.InsEmit, A: 3}, {Kind: api.InsHalt}}
	if b, e := Encode(l, 0); e != api.OK || !bytes.Equal(b, []byte{3, 2, 3, 1, 9, 3, 1}) {
		t.Errorf("the chapter's example: %v, %d", b, e)
	}
}

// P8.4: Encode answers Check's error, and nothing beside it
func TestEncodeRefuses(t *testing.T) {
	for _, c := range []struct {
		l     []api.Ins
		cells int
		want  api.Errno
	}{
		{nil, 4, api.ErrLen}, {halts(601), 4, api.ErrLen}, {[]api.Ins{{}}, 4, api.ErrOp}, {[]api.Ins{{Kind: api.InsFail, A: -1}}, 4, api.ErrReg}, {[]api.Ins{{Kind: api.InsHalt, K: 1}}, 4, api.ErrUnused},
		{[]api.Ins{{Kind: api.InsInto, C: 2}, {Kind: api.InsHalt}}, 2, api.ErrCell}, {[]api.Ins{{Kind: api.InsInto}, {Kind: api.InsHalt}}, -1, api.ErrCell}, {[]api.Ins{{Kind: api.InsInto, C: 4}, {Kind: api.InsHalt}}, 5, api.ErrCell},
		{[]api.Ins{{Kind: api.InsJump, K: -1}}, 4, api.ErrTarget}, {[]api.Ins{{Kind: api.InsEmit}}, 4, api.ErrFall},
	} {
		was := slices.Clone(c.l)
		if b, e := Encode(c.l, c.cells); len(b) != 0 || e != c.want {
			t.Errorf("Encode(%v, %d) = %v, %d; not %d", c.l, c.cells, b, e, c.want)
		}
		if !slices.Equal(c.l, was) {
			t.Error("Encode has changed what it was handed")
		}
	}
}

func refuses(t *testing.T, b []byte, cells int, want api.Errno) {
	t.Helper()
	was := slices.Clone(b)
	if l, e := Decode(b, cells); len(l) != 0 || e != want {
		t.Errorf("Decode(%v, %d) = %v, %d; not %d", b, cells, l, e, want)
	}
	if !bytes.Equal(b, was) {
		t.Error("Decode has changed what it was handed")
	}
}

// P8.4: bytes that are cut off at each place, and bytes that are left behind
func TestDecodeCutOff(t *testing.T) {
	l := append(good(), api.Ins{Kind: api.InsConst, A: 2, K: math.MinInt64}, api.Ins{Kind: api.InsHalt})
	b, e := Encode(l, 4)
	if e != api.OK {
		t.Fatal(e)
	}
	for long := range b {
		refuses(t, b[:long], 4, api.ErrShort) // of a longer list: what lies behind isn't read
	}
	for _, more := range []byte{0, 1, 128, 255} {
		refuses(t, append(slices.Clone(b), more), 4, api.ErrForm)
	}
	refuses(t, append(slices.Clone(b), b...), 4, api.ErrForm)
	refuses(t, nil, 4, api.ErrShort)
	refuses(t, []byte{128}, 4, api.ErrShort)
	refuses(t, []byte{0}, 4, api.ErrLen)
	refuses(t, []byte{0, 1}, 4, api.ErrForm)
	for _, first := range l {
		b, _ := Encode([]api.Ins{first, {Kind: api.InsHalt}}, 4)
		for long := 3; long < len(b)-1; long++ { // as many as bytes, so that Count lets them pass
			refuses(t, b[:long], 4, api.ErrShort)
		}
	}
}

// P8.4: how many there are, by Count(1)
func TestDecodeCount(t *testing.T) {
	refuses(t, []byte{3, 1, 1}, 0, api.ErrShort)
	refuses(t, []byte{3, 99, 1}, 0, api.ErrShort)
	refuses(t, []byte{129, 0, 1}, 0, api.ErrForm)
	refuses(t, []byte{255, 255, 255, 255, 255, 255, 255, 255, 255, 1, 1}, 0, api.ErrShort)
	refuses(t, []byte{255, 255, 255, 255, 255, 255, 255, 255, 255, 2, 1}, 0, api.ErrForm)
	of := func(many int) []byte {
		return append(binary.AppendUvarint(nil, uint64(many)), bytes.Repeat([]byte{1}, many)...)
	}
	if l, e := Decode(of(600), 0); e != api.OK || !slices.Equal(l, halts(600)) {
		t.Errorf("of 600: %d and %d", len(l), e)
	}
	for _, many := range []int{601, 602, 1200, 100000} {
		refuses(t, of(many), 0, api.ErrLen)
		refuses(t, append(of(many), 1), 0, api.ErrForm)
		cut := of(many)
		cut[len(cut)-1] = 9
		refuses(t, cut, 0, api.ErrShort)
		cut[len(cut)-1] = 14
		refuses(t, cut, 0, api.ErrForm)
	}
}

// P8.4: a Kind that there isn't is ErrForm where it is come to, ahead of what is cut off or wrong behind it
func TestDecodeKind(t *testing.T) {
	for _, kind := range [][]byte{{0}, {14}, {99}, {127}, {129, 2}, {129, 128, 128, 128, 16}, {255, 255, 255, 255, 255, 255, 255, 255, 255, 1}, {129, 128, 128, 128, 128, 128, 128, 128, 128, 1}} {
		refuses(t, append([]byte{1}, kind...), 0, api.ErrForm)
		refuses(t, append(append([]byte{2, 1}, kind...), 128), 0, api.ErrForm)
		refuses(t, append(append([]byte{2}, kind...), 9), 0, api.ErrForm)
		refuses(t, append([]byte{2, 9, 99}, kind...), 0, api.ErrForm) // ahead of it a register that doesn't fit, which is looked at later
	}
	refuses(t, []byte{2, 9, 128, 0}, 0, api.ErrForm)
	refuses(t, []byte{2, 9, 128}, 0, api.ErrShort)
	refuses(t, []byte{1, 128}, 0, api.ErrShort)
	refuses(t, []byte{1, 128, 128, 128, 128}, 0, api.ErrShort)
	refuses(t, []byte{3, 1, 2, 99}, 0, api.ErrShort) // a cut ahead of a kind that could have been wrong
}

// P8.4: a number that isn't the shortest, at each place
func TestDecodeLongForms(t *testing.T) {
	for _, b := range [][]byte{
		{130, 0, 1, 1}, {2, 129, 0, 1}, {2, 9, 129, 0, 1}, {2, 2, 129, 0, 1, 1}, {2, 2, 1, 129, 0, 1}, {2, 3, 1, 128, 0, 1}, {2, 4, 147, 0, 1, 1, 1}, {2, 5, 129, 0, 1, 1, 1, 1},
		{2, 5, 1, 1, 1, 129, 0, 1}, {2, 6, 1, 129, 0, 1, 1}, {2, 7, 1, 1, 128, 0, 1}, {2, 8, 1, 128, 0, 1}, {2, 10, 128, 0, 1}, {2, 11, 1, 128, 128, 0, 1}, {2, 12, 128, 0, 0, 1}, {2, 13, 129, 0, 1},
		{2, 2, 1, 128, 128, 128, 128, 128, 128, 128, 128, 128, 2, 1},
	} {
		refuses(t, b, 4, api.ErrForm)
	}
}

// P8.4: what layer 2 can read, but Check doesn't let be; too great a number doesn't go round to one that fits
func TestDecodeChecks(t *testing.T) {
	for _, n := range []uint64{16, 17, 127, 128, 255, 256, 1 << 31, 1<<31 - 1, 1 << 32, 1<<32 + 1, 1 << 63, 1<<63 + 1, math.MaxUint64, math.MaxUint64 - 14} {
		far := binary.AppendUvarint(nil, n)
		of := func(ahead []byte, behind ...byte) []byte {
			return alone(append(append(slices.Clone(ahead), far...), behind...)...)
		}
		refuses(t, of([]byte{9}), 4, api.ErrReg)
		refuses(t, of([]byte{2}, 0), 4, api.ErrReg)
		refuses(t, of([]byte{3, 1}), 4, api.ErrReg)
		refuses(t, of([]byte{4, 19}, 1), 4, api.ErrReg)
		refuses(t, of([]byte{5, 1, 1}, 1), 4, api.ErrReg)
		refuses(t, of([]byte{5, 1, 1, 1}), 4, api.ErrReg)
		refuses(t, of([]byte{6, 1}, 0), 4, api.ErrReg)
		refuses(t, of([]byte{7}, 1, 0), 4, api.ErrReg)
		refuses(t, of([]byte{8, 1}), 4, api.ErrCell)
		if n > 18 {
			refuses(t, of([]byte{5}, 1, 1, 1), 4, api.ErrOp)
		}
		if n < 19 || n > 21 {
			refuses(t, of([]byte{4}, 1, 1), 4, api.ErrOp)
		}
		refuses(t, of([]byte{10}), 4, api.ErrTarget)
		refuses(t, of([]byte{11, 1}), 4, api.ErrTarget)
	}
	refuses(t, alone(4, 0, 1, 1), 4, api.ErrOp)
	refuses(t, alone(4, 18, 1, 1), 4, api.ErrOp)
	refuses(t, alone(5, 0, 1, 1, 1), 4, api.ErrOp)
	refuses(t, alone(5, 19, 1, 1, 1), 4, api.ErrOp)
	refuses(t, alone(8, 1, 4), 5, api.ErrCell)
	refuses(t, alone(8, 1, 3), 3, api.ErrCell)
	refuses(t, alone(8, 1, 0), 0, api.ErrCell)
	refuses(t, alone(8, 1, 0), math.MinInt, api.ErrCell)
	refuses(t, alone(10, 4), 0, api.ErrTarget)
	refuses(t, alone(12, 0, 1), 0, api.ErrTarget)
	refuses(t, []byte{1, 9, 1}, 0, api.ErrFall)
	refuses(t, []byte{2, 10, 4, 9, 16}, 0, api.ErrTarget) // the first one that has an error
	refuses(t, []byte{2, 9, 16, 9, 128}, 0, api.ErrShort) // layer 2's ahead of Check's
	refuses(t, []byte{1, 9, 16, 1}, 0, api.ErrForm)
}

// P8.4: what is answered is new memory each time
func TestBytesShareNothing(t *testing.T) {
	l := append(good(), api.Ins{Kind: api.InsHalt})
	b, _ := Encode(l, 4)
	was := bytes.Clone(b)
	back, _ := Decode(b, 4)
	for i := range b {
		b[i] = 0
	}
	if !Same(back, l) {
		t.Error("what was decoded hangs on the bytes")
	}
	for i := range back {
		back[i] = api.Ins{}
	}
	if again, e := Encode(l, 4); e != api.OK || !bytes.Equal(again, was) {
		t.Error("what was encoded is kept")
	}
}

// P8.5: what is encoded is decoded as it was; Encode and Decode refuse alike
func TestEncodedIsDecoded(t *testing.T) {
	r := rand.New(rand.NewSource(5))
	many := 0
	for range 20000 {
		l, cells := anyText(r), r.Intn(7)-1
		b, e := Encode(l, cells)
		if _, want := Check(l, cells); e != want {
			t.Fatalf("Encode(%v, %d) answers %d, Check %d", l, cells, e, want)
		}
		if e != api.OK {
			continue
		}
		many++
		if back, e := Decode(b, cells); e != api.OK || !slices.Equal(back, l) {
			t.Fatalf("%v is decoded as %v, %d", l, back, e)
		}
	}
	if many < 5000 {
		t.Errorf("only %d texts may be", many)
	}
}

// P8.5: what is decoded is encoded as those bytes
func TestDecodedIsEncoded(t *testing.T) {
	r := rand.New(rand.NewSource(6))
	many := 0
	for range 200000 {
		b, _ := Encode(anyText(r), 4)
		switch at := r.Intn(len(b) + 1); {
		case at == len(b):
			b = append(b, byte(r.Intn(256)))
		case r.Intn(3) == 0:
			b = slices.Delete(b, at, at+1)
		case r.Intn(2) == 0:
			b = slices.Insert(b, at, byte(128+r.Intn(2)))
		default:
			b[at] = byte(r.Intn(24))
		}
		l, e := Decode(b, 4)
		if e != api.OK {
			if len(l) != 0 {
				t.Fatalf("Decode(%v): %v beside %d", b, l, e)
			}
			continue
		}
		many++
		if again, e := Encode(l, 4); e != api.OK || !bytes.Equal(again, b) {
			t.Fatalf("%v is encoded as %v, %d", b, again, e)
		}
	}
	if many < 2000 {
		t.Errorf("only %d were decoded", many)
	}
}
