package pack

import (
	"bytes"
	"math"
	"strings"
	"testing"
)

// laid: what a writer has laid down behind these calls.
func laid(calls ...func(w *Writer)) []byte {
	w := New()
	for _, call := range calls {
		call(w)
	}
	return w.Bytes()
}

func wantBytes(t *testing.T, what string, got, want []byte) {
	t.Helper()
	if !bytes.Equal(got, want) {
		t.Errorf("%s: %v; want %v", what, got, want)
	}
}

func uints() []uint64 {
	l := []uint64{0, math.MaxUint64}
	for i := range 64 {
		l = append(l, 1<<i, 1<<i-1, 1<<i+1, math.MaxUint64-1<<i)
	}
	return l
}

func ints() []int64 {
	l := []int64{math.MinInt64, math.MaxInt64}
	for _, n := range uints() {
		l = append(l, int64(n), -int64(n))
	}
	return l
}

// P2.1
func TestWriterUint(t *testing.T) {
	for _, c := range []struct {
		n uint64
		b []byte
	}{
		{0, []byte{0}}, {1, []byte{1}}, {127, []byte{127}}, {128, []byte{128, 1}}, {300, []byte{172, 2}}, {16383, []byte{255, 127}}, {16384, []byte{128, 128, 1}},
		{1<<63 - 1, []byte{255, 255, 255, 255, 255, 255, 255, 255, 127}},
		{1 << 63, []byte{128, 128, 128, 128, 128, 128, 128, 128, 128, 1}},
		{math.MaxUint64, []byte{255, 255, 255, 255, 255, 255, 255, 255, 255, 1}},
	} {
		wantBytes(t, "Uint", laid(func(w *Writer) { w.Uint(c.n) }), c.b)
	}
}

// P2.1
func TestWriterInt(t *testing.T) {
	for _, c := range []struct {
		n int64
		u uint64
	}{
		{0, 0}, {-1, 1}, {1, 2}, {-2, 3}, {63, 126}, {-64, 127}, {64, 128}, {-65, 129},
		{math.MaxInt64, math.MaxUint64 - 1}, {math.MinInt64, math.MaxUint64}, {math.MinInt64 + 1, math.MaxUint64 - 2}, {-1 << 62, 1<<63 - 1}, {1 << 62, 1 << 63},
	} {
		wantBytes(t, "Int", laid(func(w *Writer) { w.Int(c.n) }), laid(func(w *Writer) { w.Uint(c.u) }))
	}
	wantBytes(t, "Int of -2", laid(func(w *Writer) { w.Int(-2) }), []byte{3})
}

// P2.1
func TestWriterOthers(t *testing.T) {
	wantBytes(t, "Flag", laid(func(w *Writer) { w.Flag(true) }), []byte{1})
	wantBytes(t, "Flag", laid(func(w *Writer) { w.Flag(false) }), []byte{0})
	wantBytes(t, "Text", laid(func(w *Writer) { w.Text("ab") }), []byte{2, 97, 98})
	wantBytes(t, "Text", laid(func(w *Writer) { w.Text("") }), []byte{0})
	wantBytes(t, "Text", laid(func(w *Writer) { w.Text("\x00\xff") }), []byte{2, 0, 255})
	long := strings.Repeat("x", 128)
	wantBytes(t, "Text", laid(func(w *Writer) { w.Text(long) }), append([]byte{128, 1}, long...))
	wantBytes(t, "Ints", laid(func(w *Writer) { w.Ints(nil) }), []byte{0})
	wantBytes(t, "Ints", laid(func(w *Writer) { w.Ints([]int64{}) }), []byte{0})
	wantBytes(t, "Ints", laid(func(w *Writer) { w.Ints([]int64{1, -1, 300}) }), []byte{3, 2, 1, 216, 4})
	wantBytes(t, "nothing", laid(), nil)
	all := laid(func(w *Writer) { w.Uint(300) }, func(w *Writer) { w.Int(-2) }, func(w *Writer) { w.Text("ab") }, func(w *Writer) { w.Flag(true) }, func(w *Writer) { w.Ints([]int64{5}) })
	wantBytes(t, "one behind the other", all, []byte{172, 2, 3, 2, 97, 98, 1, 1, 10})
}

// P2.1, rule 5: what is handed in isn't kept, what is answered is new memory.
func TestWriterKeepsToItself(t *testing.T) {
	w := New()
	l := []int64{1, 2, 3}
	w.Ints(l[:2])
	l[0] = 9
	first := w.Bytes()
	wantBytes(t, "a list changed later", first, []byte{2, 2, 4})
	if cap(first) != len(first) {
		t.Errorf("room for %d behind %d bytes", cap(first), len(first))
	}
	first[0] = 77
	second := w.Bytes()
	wantBytes(t, "an answer changed", second, []byte{2, 2, 4})
	w.Uint(5)
	wantBytes(t, "a later call", second, []byte{2, 2, 4})
	wantBytes(t, "all", w.Bytes(), []byte{2, 2, 4, 5})
	if other := New().Bytes(); len(other) != 0 {
		t.Errorf("a new writer has %v", other)
	}
	if l[1] != 2 || l[2] != 3 {
		t.Error("the list was changed")
	}
}
