package pack

import (
	"bytes"
	"math"
	"slices"
	"strings"
	"testing"

	"outrider/api"
)

// afterError: all that a reader answers behind an error.
func afterError(t *testing.T, what string, r *Reader, want api.Errno) {
	t.Helper()
	if r.Uint() != 0 || r.Int() != 0 || r.Flag() || r.Count(1) != 0 || r.Text() != "" || len(r.Ints()) != 0 || r.Left() != 0 {
		t.Errorf("%s: something is taken up behind an error", what)
	}
	if r.Fail() != want || r.End() != want {
		t.Errorf("%s: Fail %d, End %d; want %d", what, r.Fail(), r.End(), want)
	}
}

// P2.2
func TestReadNumbersThatCannotStand(t *testing.T) {
	nine := strings.Repeat("\x80", 9)
	for _, c := range []struct {
		b    string
		want api.Errno
	}{
		{"", api.ErrShort}, {"\x80", api.ErrShort}, {"\xff\xff", api.ErrShort}, {nine, api.ErrShort},
		{"\x80\x00", api.ErrForm}, {"\xff\x00", api.ErrForm}, {"\x80\x80\x00", api.ErrForm}, {"\x80\x00\x01", api.ErrForm},
		{nine + "\x00", api.ErrForm}, {nine + "\x02", api.ErrForm}, {nine + "\x7f", api.ErrForm},
		{nine + "\x80", api.ErrForm}, {nine + "\x81", api.ErrForm}, {nine + "\xff", api.ErrForm}, {nine + "\x81\x01", api.ErrForm}, {nine + "\x80\x80", api.ErrForm},
		{strings.Repeat("\xff", 9) + "\x02", api.ErrForm}, {strings.Repeat("\xff", 40), api.ErrForm},
	} {
		b := []byte(c.b)
		for what, take := range map[string]func(r *Reader) bool{
			"Uint":  func(r *Reader) bool { return r.Uint() == 0 },
			"Int":   func(r *Reader) bool { return r.Int() == 0 },
			"Count": func(r *Reader) bool { return r.Count(1) == 0 },
			"Text":  func(r *Reader) bool { return r.Text() == "" },
			"Ints":  func(r *Reader) bool { return len(r.Ints()) == 0 },
		} {
			r := Read(b)
			if !take(r) {
				t.Errorf("%s of %x isn't nothing", what, c.b)
			}
			afterError(t, what+" of "+c.b, r, c.want)
		}
	}
}

// P2.2
func TestReadNumbersThatCan(t *testing.T) {
	for _, c := range []struct {
		b []byte
		n uint64
	}{
		{[]byte{0}, 0}, {[]byte{127}, 127}, {[]byte{128, 1}, 128}, {[]byte{172, 2}, 300}, {[]byte{128, 128, 1}, 16384},
		{[]byte{128, 128, 128, 128, 128, 128, 128, 128, 128, 1}, 1 << 63},
		{[]byte{255, 255, 255, 255, 255, 255, 255, 255, 255, 1}, math.MaxUint64},
	} {
		r := Read(append(c.b[:len(c.b):len(c.b)], 9))
		if n := r.Uint(); n != c.n || r.Fail() != api.OK || r.Left() != 1 {
			t.Errorf("Uint of %v = %d, %d, %d left", c.b, n, r.Fail(), r.Left())
		}
		r = Read(c.b)
		want := int64(c.n >> 1)
		if c.n&1 == 1 {
			want = -want - 1
		}
		if n := r.Int(); n != want || r.End() != api.OK {
			t.Errorf("Int of %v = %d, %d", c.b, n, r.End())
		}
	}
}

// P2.2
func TestReadFlag(t *testing.T) {
	for x := range 256 {
		r := Read([]byte{byte(x), 0})
		is := r.Flag()
		if x > 1 {
			if is {
				t.Errorf("%d is a flag", x)
			}
			afterError(t, "Flag", r, api.ErrForm)
		} else if is != (x == 1) || r.Fail() != api.OK || r.Left() != 1 {
			t.Errorf("Flag of %d = %v, %d", x, is, r.Fail())
		}
	}
	r := Read(nil)
	if r.Flag() {
		t.Error("a flag of no bytes")
	}
	afterError(t, "Flag", r, api.ErrShort)
}

// P2.2
func TestReadCount(t *testing.T) {
	most := append([]byte{255, 255, 255, 255, 255, 255, 255, 255, 255, 1}, make([]byte, 100)...)
	for _, c := range []struct {
		b     []byte
		least int
		n     int
		want  api.Errno
	}{
		{[]byte{3, 0, 0, 0}, 1, 3, api.OK}, {[]byte{4, 0, 0, 0}, 1, 0, api.ErrShort},
		{[]byte{3, 0, 0, 0}, 0, 3, api.OK}, {[]byte{4, 0, 0, 0}, 0, 0, api.ErrShort},
		{[]byte{3, 0, 0, 0}, -7, 3, api.OK}, {[]byte{4, 0, 0, 0}, math.MinInt, 0, api.ErrShort},
		{[]byte{1, 0, 0, 0}, 2, 1, api.OK}, {[]byte{2, 0, 0, 0}, 2, 0, api.ErrShort}, {[]byte{2, 0, 0, 0, 0}, 2, 2, api.OK},
		{[]byte{1, 0, 0, 0}, 3, 1, api.OK}, {[]byte{1, 0, 0, 0}, 4, 0, api.ErrShort},
		{[]byte{0}, 1, 0, api.OK}, {[]byte{0}, math.MaxInt, 0, api.OK}, {[]byte{1, 0, 0}, math.MaxInt, 0, api.ErrShort}, {[]byte{1}, 1, 0, api.ErrShort},
		{most, 1, 0, api.ErrShort}, {most, math.MaxInt, 0, api.ErrShort},
		{nil, 1, 0, api.ErrShort}, {[]byte{128, 0}, 1, 0, api.ErrForm},
	} {
		r := Read(c.b)
		if n := r.Count(c.least); n != c.n || r.Fail() != c.want {
			t.Errorf("Count(%d) of %v = %d, %d; want %d, %d", c.least, c.b, n, r.Fail(), c.n, c.want)
		}
		if c.want != api.OK {
			afterError(t, "Count", r, c.want)
		} else if r.Left() != len(c.b)-1 {
			t.Errorf("Count(%d) of %v leaves %d", c.least, c.b, r.Left())
		}
	}
}

// P2.2
func TestReadTexts(t *testing.T) {
	r := Read([]byte{2, 97, 98, 0, 1, 0, 7})
	if r.Text() != "ab" || r.Text() != "" || r.Text() != "\x00" || r.Left() != 1 || r.Fail() != api.OK {
		t.Errorf("%d, %d left", r.Fail(), r.Left())
	}
	for _, b := range [][]byte{{5}, {3, 97, 98}, {255, 255, 255, 255, 255, 255, 255, 255, 255, 1, 0}} {
		r := Read(b)
		if s := r.Text(); s != "" {
			t.Errorf("Text of %v = %q", b, s)
		}
		afterError(t, "Text", r, api.ErrShort)
	}
}

// P2.2
func TestReadLists(t *testing.T) {
	r := Read([]byte{3, 2, 1, 216, 4, 0, 9})
	if l := r.Ints(); !slices.Equal(l, []int64{1, -1, 300}) || r.Left() != 2 {
		t.Errorf("Ints = %v, %d left", l, r.Left())
	}
	if l := r.Ints(); len(l) != 0 || r.Left() != 1 || r.Fail() != api.OK {
		t.Errorf("Ints = %v, %d left", l, r.Left())
	}
	for _, c := range []struct {
		b    []byte
		want api.Errno
	}{
		{[]byte{3, 1, 1}, api.ErrShort},                 // more than bytes are left: seen by Count
		{[]byte{2, 128, 1}, api.ErrShort},               // as many bytes as numbers, but the first takes two
		{[]byte{2, 1, 128}, api.ErrShort},               // the last one ends too early
		{[]byte{2, 1, 128, 0, 5}, api.ErrForm},          // the second one can't stand there
		{[]byte{4, 1, 128, 0}, api.ErrShort},            // Count comes first
		{[]byte{255, 255, 255, 255, 15}, api.ErrShort},  // 2^32 - 1 of them
		{[]byte{2, 128, 128, 0, 1, 128}, api.ErrForm},   // of two faults, the first one
		{[]byte{3, 5, 128, 129, 5, 128}, api.ErrShort},  // two numbers, and a third that ends too early
		{[]byte{2, 5, 128, 128, 128, 0}, api.ErrForm},   // a long one that ends in a nought
		{[]byte{1, 128, 128, 128, 128}, api.ErrShort},   // never ends
		{[]byte{1, 128}, api.ErrShort},                  // likewise
		{[]byte{128, 0, 1, 1}, api.ErrForm},             // how many there are can't be told so
		{[]byte{128, 128, 128, 128, 16}, api.ErrShort},  // 2^32 of them
		{[]byte{128, 128, 128, 128, 128}, api.ErrShort}, // how many there are ends too early
	} {
		r := Read(c.b)
		if l := r.Ints(); len(l) != 0 {
			t.Errorf("Ints of %v = %v", c.b, l)
		}
		afterError(t, "Ints", r, c.want)
	}
}

// P2.2
func TestLeftAndEnd(t *testing.T) {
	r := Read([]byte{1, 2, 3})
	for left := 3; left > 0; left-- {
		if r.Left() != left || r.Fail() != api.OK || r.End() != api.ErrForm || r.Fail() != api.OK {
			t.Errorf("%d: %d left, Fail %d, End %d", left, r.Left(), r.Fail(), r.End())
		}
		if n := r.Uint(); n != uint64(4-left) {
			t.Errorf("Uint = %d behind End", n)
		}
	}
	if r.Left() != 0 || r.End() != api.OK {
		t.Errorf("%d left, End %d", r.Left(), r.End())
	}
	for _, b := range [][]byte{nil, {}} {
		if r := Read(b); r.Left() != 0 || r.Fail() != api.OK || r.End() != api.OK {
			t.Errorf("of nothing %d left, Fail %d, End %d", r.Left(), r.Fail(), r.End())
		}
	}
}

// P2.2: the first error stays, whatever another call would have found.
func TestTheFirstErrorStays(t *testing.T) {
	r := Read([]byte{2, 1, 5, 5})
	r.Flag()
	afterError(t, "a flag", r, api.ErrForm)
	r = Read([]byte{9, 2, 128, 0})
	r.Text()
	afterError(t, "a text", r, api.ErrShort)
	if s := Read([]byte{1, 97}).Text(); s != "a" {
		t.Errorf("another reader: %q", s)
	}
}

// Rule 5: what is handed in isn't kept, isn't changed, and isn't read behind its length.
func TestReaderKeepsToItself(t *testing.T) {
	b := []byte{1, 97, 2, 10, 12, 128, 1}
	r := Read(b[:6])
	b[1], b[3] = 98, 99
	if s := r.Text(); s != "a" {
		t.Errorf("Text = %q", s)
	}
	if l := r.Ints(); !slices.Equal(l, []int64{5, 6}) {
		t.Errorf("Ints = %v", l)
	}
	if r.Left() != 1 || r.Uint() != 0 || r.Fail() != api.ErrShort {
		t.Errorf("a byte behind the length was read: %d", r.Fail())
	}
	if !bytes.Equal(b, []byte{1, 98, 2, 99, 12, 128, 1}) {
		t.Errorf("changed: %v", b)
	}
}

// P2.4
func TestWhatIsLaidDownIsTakenUp(t *testing.T) {
	texts := []string{"", "a", "\x00\x80\xff", strings.Repeat("long", 5000)}
	lists := [][]int64{nil, {0}, {-1, 1}, ints()}
	w := New()
	for _, n := range uints() {
		w.Uint(n)
	}
	for _, n := range ints() {
		w.Int(n)
	}
	for i := range texts {
		w.Text(texts[i])
		w.Flag(i%2 == 0)
		w.Ints(lists[i])
	}
	r := Read(w.Bytes())
	for _, n := range uints() {
		if m := r.Uint(); m != n {
			t.Errorf("Uint %d; want %d", m, n)
		}
	}
	for _, n := range ints() {
		if m := r.Int(); m != n {
			t.Errorf("Int %d; want %d", m, n)
		}
	}
	for i := range texts {
		if r.Text() != texts[i] || r.Flag() != (i%2 == 0) || !slices.Equal(r.Ints(), lists[i]) {
			t.Errorf("text, flag, list %d", i)
		}
	}
	if r.End() != api.OK {
		t.Errorf("End %d", r.End())
	}
}

// P2.4: over all rows of three bytes at most, made of those at which something turns.
func TestWhatIsTakenUpIsLaidDownAgain(t *testing.T) {
	turns := []byte{0, 1, 2, 3, 126, 127, 128, 129, 254, 255}
	rows := [][]byte{nil}
	for from := 0; len(rows) < 1+10+100+1000; from++ {
		for _, x := range turns {
			rows = append(rows, append(rows[from][:len(rows[from]):len(rows[from])], x))
		}
	}
	for _, b := range rows {
		for what, again := range map[string]func(r *Reader, w *Writer){
			"Uint":  func(r *Reader, w *Writer) { w.Uint(r.Uint()) },
			"Int":   func(r *Reader, w *Writer) { w.Int(r.Int()) },
			"Flag":  func(r *Reader, w *Writer) { w.Flag(r.Flag()) },
			"Count": func(r *Reader, w *Writer) { w.Uint(uint64(r.Count(1))) },
			"Text":  func(r *Reader, w *Writer) { w.Text(r.Text()) },
			"Ints":  func(r *Reader, w *Writer) { w.Ints(r.Ints()) },
		} {
			r, w := Read(b), New()
			again(r, w)
			if taken := b[:len(b)-r.Left()]; r.Fail() == api.OK && !bytes.Equal(w.Bytes(), taken) {
				t.Errorf("%s of %v is laid down as %v", what, taken, w.Bytes())
			}
		}
	}
}
