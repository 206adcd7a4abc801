package attempt

import (
	"math"
	"slices"
	"testing"

	"outrider/api"
	"outrider/red"
)

const (
	least    = math.MinInt64
	greatest = math.MaxInt64
)

func made(t *testing.T, reads, writes, outs int, reds ...api.Red) *Log {
	t.Helper()
	l, e := New(reads, writes, outs, reds)
	if l == nil || e != api.OK {
		t.Fatalf("New(%d, %d, %d, %v): %v %d", reads, writes, outs, reds, l, e)
	}
	return l
}

func refused(t *testing.T, reads, writes, outs int, reds []api.Red, want api.Errno) {
	t.Helper()
	if l, e := New(reads, writes, outs, reds); l != nil || e != want {
		t.Errorf("New(%d, %d, %d, %v): %v %d, not %d", reads, writes, outs, reds, l, e, want)
	}
}

func notes(t *testing.T, l *Log, r Read, want api.Errno) {
	t.Helper()
	if e := l.Note(r); e != want {
		t.Errorf("Note(%v): %d, not %d", r, e, want)
	}
}

func reads(t *testing.T, l *Log, want Read) {
	t.Helper()
	if r, ok := l.Read(want.At); r != want || !ok {
		t.Errorf("Read(%d): %v %v, not %v", want.At, r, ok, want)
	}
}

func readsNone(t *testing.T, l *Log, at int) {
	t.Helper()
	if r, ok := l.Read(at); r != (Read{}) || ok {
		t.Errorf("Read(%d): %v %v, not none", at, r, ok)
	}
}

func froms(t *testing.T, l *Log, at, age int, want bool) {
	t.Helper()
	if l.From(at, age) != want {
		t.Errorf("From(%d, %d) isn't %v", at, age, want)
	}
}

func writes(t *testing.T, l *Log, at int, value int64, want api.Errno) {
	t.Helper()
	if e := l.Write(at, value); e != want {
		t.Errorf("Write(%d, %d): %d, not %d", at, value, e, want)
	}
}

// written: the word was written with this value; there is room for it, as there is for each that was written.
func written(t *testing.T, l *Log, at int, want int64) {
	t.Helper()
	if value, ok := l.Written(at); value != want || !ok {
		t.Errorf("Written(%d): %d %v, not %d", at, value, ok, want)
	}
	room(t, l, at, true)
}

func writtenNone(t *testing.T, l *Log, at int) {
	t.Helper()
	if value, ok := l.Written(at); value != 0 || ok {
		t.Errorf("Written(%d): %d %v, not none", at, value, ok)
	}
}

func room(t *testing.T, l *Log, at int, want bool) {
	t.Helper()
	if l.Room(at) != want {
		t.Errorf("Room(%d) isn't %v", at, want)
	}
}

func emits(t *testing.T, l *Log, n int64, want api.Errno) {
	t.Helper()
	if e := l.Emit(n); e != want {
		t.Errorf("Emit(%d): %d, not %d", n, e, want)
	}
}

func intos(t *testing.T, l *Log, cell int, n int64, want bool) {
	t.Helper()
	if l.Into(cell, n) != want {
		t.Errorf("Into(%d, %d) isn't %v", cell, n, want)
	}
}

func ontos(t *testing.T, l *Log, ahead, want []int64) {
	t.Helper()
	if got, ok := l.Onto(ahead); !slices.Equal(got, want) || !ok {
		t.Errorf("Onto(%v): %v %v, not %v", ahead, got, ok, want)
	}
}

func ontosNone(t *testing.T, l *Log, ahead []int64) {
	t.Helper()
	if got, ok := l.Onto(ahead); len(got) != 0 || ok {
		t.Errorf("Onto(%v): %v %v, not none", ahead, got, ok)
	}
}

func holds(t *testing.T, l *Log, mem []int64, want bool) {
	t.Helper()
	if l.Holds(mem) != want {
		t.Errorf("Holds(%v) isn't %v", mem, want)
	}
}

// all: what a log has.
type all struct {
	reads  []Read
	writes []api.Cell
	outs   []int64
}

// is: just this is in the log, told by each call that tells; asking changes nothing.
func is(t *testing.T, l *Log, want all) {
	t.Helper()
	for range 2 {
		if got := l.Reads(); !slices.Equal(got, want.reads) {
			t.Errorf("Reads: %v, not %v", got, want.reads)
		}
		if got := l.Writes(); !slices.Equal(got, want.writes) {
			t.Errorf("Writes: %v, not %v", got, want.writes)
		}
		if got := l.Outs(); !slices.Equal(got, want.outs) {
			t.Errorf("Outs: %v, not %v", got, want.outs)
		}
		r, w, o := l.Lens()
		if r != len(want.reads) || w != len(want.writes) || o != len(want.outs) {
			t.Errorf("Lens: %d %d %d, not %d %d %d", r, w, o, len(want.reads), len(want.writes), len(want.outs))
		}
		for _, x := range want.reads {
			reads(t, l, x)
		}
		for _, x := range want.writes {
			written(t, l, x.At, x.Value)
		}
	}
}

// words: of all kinds, each once: any number is one.
func words() []int {
	return []int{0, -1, 1, math.MinInt, math.MaxInt, -64, 63, 64, 65, 1 << 32, -1 << 32, 1<<32 + 1, math.MinInt + 1, math.MaxInt - 1}
}

// badSizes: rooms that a log can't have.
func badSizes() []int {
	return []int{0, 65, -1, 66, 128, -64, 1 << 32, 1<<32 + 1, -1<<32 + 1, math.MinInt, math.MaxInt}
}

// P22.2 to P22.4: the chapter's example
func TestExample(t *testing.T) {
	l := made(t, 1, 1, 1)
	notes(t, l, Read{3, 7, -1}, api.OK)
	notes(t, l, Read{4, 0, 2}, api.ErrFull)
	notes(t, l, Read{3, 8, 2}, api.ErrTwice)
	writes(t, l, 3, 9, api.OK)
	writes(t, l, 3, 10, api.OK)
	writes(t, l, 5, 1, api.ErrFull)
	holds(t, l, []int64{0, 0, 0, 7}, true)
	is(t, l, all{[]Read{{3, 7, -1}}, []api.Cell{{At: 3, Value: 10}}, nil})
}

// P22.1: how much room may be, each part by itself
func TestNewSizes(t *testing.T) {
	for _, n := range badSizes() {
		refused(t, n, 1, 1, nil, api.ErrSize)
		refused(t, 1, n, 1, nil, api.ErrSize)
		refused(t, 1, 1, n, nil, api.ErrSize)
		refused(t, 64, n, n, nil, api.ErrSize)
		refused(t, n, n, n, nil, api.ErrSize)
	}
	for _, r := range []int{1, 2, 63, 64} {
		for _, w := range []int{1, 64} {
			for _, o := range []int{1, 64} {
				is(t, made(t, r, w, o), all{})
			}
		}
	}
}

// P22.1: layer 14's errors of the reductions, behind those of the room
func TestNewReds(t *testing.T) {
	sum := api.Red{Op: api.RedSum}
	five := []api.Red{sum, sum, sum, sum, sum}
	bad := []api.Red{sum, {Op: 8}}
	both := []api.Red{{}, sum, sum, sum, sum}
	refused(t, 1, 1, 1, five, api.ErrReds)
	refused(t, 1, 1, 1, both, api.ErrReds)
	for _, op := range []api.RedOp{0, 8, -1, math.MinInt, math.MaxInt, 1<<32 + 1} {
		refused(t, 64, 64, 64, []api.Red{{Op: op}}, api.ErrRed)
		refused(t, 64, 64, 64, []api.Red{sum, sum, sum, {Op: op, Init: 1}}, api.ErrRed)
	}
	for _, reds := range [][]api.Red{five, bad, both} {
		for _, n := range []int{0, 65, -1} {
			refused(t, n, 1, 1, reds, api.ErrSize)
			refused(t, 1, n, 1, reds, api.ErrSize)
			refused(t, 1, 1, n, reds, api.ErrSize)
		}
		if _, e := red.New(reds); e == api.OK {
			t.Error("layer 14 takes", reds)
		}
	}
	for op := api.RedSum; op <= api.RedXor; op++ {
		is(t, made(t, 1, 1, 1, api.Red{Op: op, Init: least}), all{})
	}
	is(t, made(t, 1, 1, 1, five[:4]...), all{})
	refused(t, 1, 1, 1, append(five[:4:4], api.Red{Op: 9}), api.ErrReds)
	if l, e := New(1, 1, 1, []api.Red{}); l == nil || e != api.OK {
		t.Error("an empty list isn't a nil one")
	}
}

// P22.2: words of all kinds are noted, in order, up to the room, and told as they were
func TestNote(t *testing.T) {
	l := made(t, len(words()), 1, 1)
	var want []Read
	for n, at := range words() {
		readsNone(t, l, at)
		froms(t, l, at, 5, false)
		r := Read{at, int64(n%3) - 1, n%4 - 2}
		notes(t, l, r, api.OK)
		want = append(want, r)
		is(t, l, all{reads: want})
	}
	notes(t, l, Read{9, 1, 1}, api.ErrFull)
	readsNone(t, l, 9)
	is(t, l, all{reads: want})
}

// P22.2: values and ages of all kinds
func TestNoteParts(t *testing.T) {
	l := made(t, 64, 1, 1)
	var want []Read
	for n, value := range []int64{0, 1, -1, least, greatest, 1 << 32} {
		for m, from := range []int{0, 1, -1, -2, math.MinInt, math.MaxInt} {
			r := Read{n*10 + m, value, from}
			notes(t, l, r, api.OK)
			want = append(want, r)
		}
	}
	is(t, l, all{reads: want})
}

// P22.2: a word that has a read already is told ahead of the room, and its read stays
func TestNoteTwice(t *testing.T) {
	for size := 1; size <= 64; size++ {
		l := made(t, size, 1, 1)
		var want []Read
		for n := range size {
			r := Read{n - 5, int64(n), n % 3}
			notes(t, l, r, api.OK)
			want = append(want, r)
			for _, x := range []Read{want[0], r, {r.At, r.Value + 1, -1}, {want[n/2].At, 0, 0}} {
				notes(t, l, x, api.ErrTwice)
			}
		}
		for range 2 {
			notes(t, l, Read{size - 5, 0, 0}, api.ErrFull)
			notes(t, l, Read{-6, 0, 0}, api.ErrFull)
		}
		for _, r := range want {
			notes(t, l, Read{r.At, -9, 9}, api.ErrTwice)
		}
		readsNone(t, l, size-5)
		is(t, l, all{reads: want})
	}
}

// P22.2: From of words with and without a read, again and again, of ages of all kinds
func TestFrom(t *testing.T) {
	l := made(t, 3, 3, 1)
	notes(t, l, Read{-7, 70, -1}, api.OK)
	notes(t, l, Read{0, 0, 4}, api.OK)
	notes(t, l, Read{7, -70, 2}, api.OK)
	writes(t, l, 1, 5, api.OK)
	want := []Read{{-7, 70, -1}, {0, 0, 4}, {7, -70, 2}}
	for n, age := range []int{3, 0, 0, -1, math.MaxInt, math.MinInt, 200, -2, 1} {
		for _, at := range []int{1, -1, 8, -8, math.MinInt, math.MaxInt, 1 << 32} {
			froms(t, l, at, age, false)
		}
		froms(t, l, want[n%3].At, age, true)
		want[n%3].From = age
		is(t, l, all{reads: want, writes: []api.Cell{{At: 1, Value: 5}}})
	}
	notes(t, l, Read{7, 1, 1}, api.ErrTwice)
	notes(t, l, Read{1, 1, 1}, api.ErrFull)
	is(t, l, all{reads: want, writes: []api.Cell{{At: 1, Value: 5}}})
}

// P22.3: words of all kinds are written up to the room, in their order; again, also where there is none
func TestWrite(t *testing.T) {
	for size := 1; size <= len(words()); size++ {
		l := made(t, 1, size, 1)
		var want []api.Cell
		for n, at := range words()[:size] {
			writtenNone(t, l, at)
			room(t, l, at, true)
			writes(t, l, at, int64(n)*100, api.OK)
			want = append(want, api.Cell{At: at, Value: int64(n) * 100})
			for i := range want {
				want[i].Value--
				writes(t, l, want[i].At, want[i].Value, api.OK)
			}
			is(t, l, all{writes: want})
		}
		for _, at := range append(words()[size:], 9, -9) {
			room(t, l, at, false)
			writes(t, l, at, 1, api.ErrFull)
			writtenNone(t, l, at)
			room(t, l, at, false)
		}
		is(t, l, all{writes: want})
		for i := range want {
			want[i].Value = 0
			writes(t, l, want[i].At, 0, api.OK)
		}
		is(t, l, all{writes: want})
	}
}

// P22.3: a word that was written with 0 was written
func TestWrittenZero(t *testing.T) {
	l := made(t, 1, 2, 1)
	writes(t, l, 5, 0, api.OK)
	written(t, l, 5, 0)
	for _, at := range []int{0, -5, 4, 6, -1, math.MinInt, math.MaxInt, 1<<32 + 5} {
		writtenNone(t, l, at)
		room(t, l, at, true)
	}
	writes(t, l, 0, greatest, api.OK)
	writes(t, l, 5, least, api.OK)
	writes(t, l, 5, 0, api.OK)
	written(t, l, 5, 0)
	written(t, l, 0, greatest)
	for _, at := range []int{-5, 4, 6, -1, math.MinInt, math.MaxInt, 1<<32 + 5} {
		writtenNone(t, l, at)
		room(t, l, at, false)
	}
	is(t, l, all{writes: []api.Cell{{At: 5}, {At: 0, Value: greatest}}})
}

// P22.4: numbers of all kinds, also the same ones, up to the room
func TestEmit(t *testing.T) {
	numbers := []int64{0, 0, -1, least, greatest, 5, 5, 0}
	for size := 1; size <= 64; size++ {
		l := made(t, 1, 1, size)
		var want []int64
		for n := range size {
			emits(t, l, numbers[n%len(numbers)], api.OK)
			want = append(want, numbers[n%len(numbers)])
			is(t, l, all{outs: want})
		}
		for range 2 {
			emits(t, l, 7, api.ErrFull)
			is(t, l, all{outs: want})
		}
	}
}

// P22.2 to P22.4: each part has its own room: that of the others neither helps nor stands in the way
func TestRoomsApart(t *testing.T) {
	for _, size := range [][3]int{{1, 3, 5}, {3, 5, 1}, {5, 1, 3}, {2, 2, 2}, {64, 1, 1}, {1, 64, 1}, {1, 1, 64}} {
		l := made(t, size[0], size[1], size[2])
		var want all
		for n := range 65 {
			if n < size[0] {
				want.reads = append(want.reads, Read{n, 1, -1})
			}
			if n < size[1] {
				want.writes = append(want.writes, api.Cell{At: n, Value: 2})
			}
			if n < size[2] {
				want.outs = append(want.outs, 3)
			}
			notes(t, l, Read{n, 1, -1}, fullFrom(n, size[0]))
			room(t, l, n, n < size[1])
			writes(t, l, n, 2, fullFrom(n, size[1]))
			emits(t, l, 3, fullFrom(n, size[2]))
		}
		is(t, l, want)
	}
}

// fullFrom: what the thing of this place is answered with so much room.
func fullFrom(place, room int) api.Errno {
	if place >= room {
		return api.ErrFull
	}
	return api.OK
}

// P22.2, P22.3: what was read isn't written, and what was written isn't read
func TestReadsAndWritesApart(t *testing.T) {
	l := made(t, 2, 2, 1)
	notes(t, l, Read{1, 10, 0}, api.OK)
	writtenNone(t, l, 1)
	writes(t, l, 2, 20, api.OK)
	readsNone(t, l, 2)
	writes(t, l, 1, 11, api.OK)
	reads(t, l, Read{1, 10, 0})
	notes(t, l, Read{2, 21, 0}, api.OK)
	written(t, l, 2, 20)
	is(t, l, all{[]Read{{1, 10, 0}, {2, 21, 0}}, []api.Cell{{At: 2, Value: 20}, {At: 1, Value: 11}}, nil})
	holds(t, l, []int64{0, 10, 21}, true)
	holds(t, l, []int64{0, 11, 20}, false)
}

// P22.4: Into and Onto, of each kind of reduction, of cells that there are and that there aren't
func TestReds(t *testing.T) {
	for op := api.RedSum; op <= api.RedXor; op++ {
		l := made(t, 1, 1, 1, api.Red{Op: api.RedSum, Init: 9}, api.Red{Op: op, Init: 77})
		ontos(t, l, []int64{4, 5}, []int64{4, red.Join(op, 5, red.Zero(op))})
		for _, cell := range []int{2, -1, 3, 4, math.MinInt, math.MaxInt, 1 << 32} {
			intos(t, l, cell, 12345, false)
		}
		in := []int64{6, 3, -12, 6, greatest, least, 0}
		joined := red.Zero(op)
		for n, value := range in {
			intos(t, l, 1, value, true)
			joined = red.Join(op, joined, value)
			ontos(t, l, []int64{int64(n), 5}, []int64{int64(n), red.Join(op, 5, joined)})
		}
		intos(t, l, 0, 8, true)
		ontos(t, l, []int64{1, -5}, []int64{9, red.Join(op, -5, joined)})
		ontosNone(t, l, []int64{1})
		ontosNone(t, l, []int64{1, 2, 3})
		ontosNone(t, l, nil)
		is(t, l, all{})
	}
}

// P22.4: there is no bound to what goes into reductions, and a log without any takes none
func TestRedsMany(t *testing.T) {
	l := made(t, 1, 1, 1, api.Red{Op: api.RedSum})
	for n := range 500 {
		intos(t, l, 0, int64(n), true)
	}
	ontos(t, l, []int64{1}, []int64{1 + 500*499/2})
	l = made(t, 1, 1, 1)
	intos(t, l, 0, 1, false)
	ontos(t, l, nil, nil)
	ontos(t, l, []int64{}, nil)
	ontosNone(t, l, []int64{0})
	sum := api.Red{Op: api.RedSum}
	l = made(t, 1, 1, 1, sum, sum, sum, sum)
	for cell := range 4 {
		intos(t, l, cell, int64(cell)+1, true)
	}
	intos(t, l, 4, 1, false)
	ontos(t, l, []int64{0, 10, 20, 30}, []int64{1, 12, 23, 34})
}

// P22.4: Holds of reads at the edges of a memory, of what differs, of no reads
func TestHolds(t *testing.T) {
	l := made(t, 4, 4, 1)
	for _, mem := range [][]int64{nil, {}, {1}, {0, 0}} {
		holds(t, l, mem, true)
	}
	writes(t, l, 9, 9, api.OK)
	holds(t, l, nil, true)
	notes(t, l, Read{2, 0, 3}, api.OK)
	for _, mem := range [][]int64{nil, {}, {0}, {0, 0}, {0, 0, 1}, {1, 1, -1, 0}, make([]int64, 2, 8)} {
		holds(t, l, mem, false)
	}
	for _, mem := range [][]int64{{0, 0, 0}, {5, -5, 0, 7}, make([]int64, 64)} {
		holds(t, l, mem, true)
	}
	notes(t, l, Read{0, least, -1}, api.OK)
	holds(t, l, []int64{least, 0, 0}, true)
	holds(t, l, []int64{0, 0, 0}, false)
	holds(t, l, []int64{least, 0, 1}, false)
	froms(t, l, 0, 5, true)
	holds(t, l, []int64{least, 0, 0}, true)
}

// P22.4: a read of a word that no memory has
func TestHoldsNoWord(t *testing.T) {
	for _, at := range []int{-1, -2, 64, 65, math.MinInt, math.MaxInt, 1 << 32, -1 << 32} {
		for _, first := range []bool{false, true} {
			l := made(t, 2, 1, 1)
			if first {
				notes(t, l, Read{At: at}, api.OK)
			}
			notes(t, l, Read{At: 1, Value: 5}, api.OK)
			holds(t, l, []int64{0, 5}, !first)
			if !first {
				notes(t, l, Read{At: at}, api.OK)
			}
			holds(t, l, []int64{0, 5}, false)
			mem := make([]int64, 64)
			mem[1] = 5
			holds(t, l, mem, false)
			holds(t, l, nil, false)
		}
	}
}

// P22.5: a log Holds a memory just if it does so without any read whose word is there what it was
func TestHoldsEachRead(t *testing.T) {
	mem := []int64{3, 0, -1, 8}
	l := made(t, 4, 1, 1)
	for at, value := range mem {
		notes(t, l, Read{at, value, at}, api.OK)
		holds(t, l, mem, true)
	}
	for at := range mem {
		other := slices.Clone(mem)
		other[at]++
		holds(t, l, other, false)
		holds(t, l, mem[:at], false)
		less := made(t, 4, 1, 1)
		for _, r := range l.Reads() {
			if r.At != at {
				notes(t, less, r, api.OK)
			}
		}
		holds(t, less, other, true)
		holds(t, less, mem, true)
	}
}

// fill: a log, used up to its room, and one thing further of each.
func fill(t *testing.T, l *Log, size int, shift int) all {
	t.Helper()
	var want all
	for n := range size {
		at := n*3 - shift
		notes(t, l, Read{at, int64(n), shift}, api.OK)
		writes(t, l, at, int64(n+shift), api.OK)
		emits(t, l, int64(shift-n), api.OK)
		want.reads = append(want.reads, Read{at, int64(n), shift})
		want.writes = append(want.writes, api.Cell{At: at, Value: int64(n + shift)})
		want.outs = append(want.outs, int64(shift-n))
	}
	notes(t, l, Read{At: -shift - 1}, api.ErrFull)
	writes(t, l, -shift-1, 1, api.ErrFull)
	emits(t, l, 1, api.ErrFull)
	is(t, l, want)
	return want
}

// P22.4, P22.5: a log that is cleared is empty, and has all its room again
func TestClear(t *testing.T) {
	for _, size := range []int{1, 2, 5, 64} {
		l := made(t, size, size, size, api.Red{Op: api.RedSum, Init: 3}, api.Red{Op: api.RedMin})
		l.Clear()
		is(t, l, all{})
		for turn := range 4 {
			intos(t, l, 0, 5, true)
			intos(t, l, 1, int64(turn), true)
			ontos(t, l, []int64{10, 9}, []int64{15, int64(turn)})
			had := fill(t, l, size, turn)
			l.Clear()
			is(t, l, all{})
			for _, r := range had.reads {
				readsNone(t, l, r.At)
				froms(t, l, r.At, 1, false)
				writtenNone(t, l, r.At)
				room(t, l, r.At, true)
			}
			holds(t, l, nil, true)
			ontos(t, l, []int64{10, 9}, []int64{10, 9})
			ontosNone(t, l, []int64{10})
			intos(t, l, 2, 1, false)
			l.Clear()
			is(t, l, all{})
		}
	}
}

// P22.5: a log that is cleared ahead of its room's end
func TestClearEarly(t *testing.T) {
	for early := range 6 {
		l := made(t, 5, 5, 5)
		for n := range early {
			notes(t, l, Read{n, 1, 1}, api.OK)
			writes(t, l, n, 1, api.OK)
			emits(t, l, 1, api.OK)
		}
		l.Clear()
		fill(t, l, 5, early)
	}
}

// Rule 5: what was handed in isn't turned, nor kept
func TestHandedIn(t *testing.T) {
	reds := []api.Red{{Op: api.RedSum, Init: 4}, {Op: api.RedMax, Init: 5}, {Op: 99}}
	l := made(t, 3, 3, 3, reds[:2]...)
	if !slices.Equal(reds, []api.Red{{Op: api.RedSum, Init: 4}, {Op: api.RedMax, Init: 5}, {Op: 99}}) {
		t.Error("New turns its reductions", reds)
	}
	reds[0].Op, reds[1].Op = api.RedProd, api.RedMin
	intos(t, l, 0, 3, true)
	intos(t, l, 0, 4, true)
	intos(t, l, 1, 6, true)
	ahead := []int64{10, 2, 50}
	got, _ := l.Onto(ahead[:2])
	again, _ := l.Onto(ahead[:2])
	if !slices.Equal(ahead, []int64{10, 2, 50}) || !slices.Equal(got, []int64{17, 6}) {
		t.Error("Onto", ahead, got)
	}
	for i := range got[:cap(got)] {
		got[:cap(got)][i] = 99
	}
	ahead[0] = 0
	if !slices.Equal(again, []int64{17, 6}) || !slices.Equal(ahead, []int64{0, 2, 50}) {
		t.Error("what Onto answers isn't new", ahead, again)
	}
	ontos(t, l, []int64{0, 9}, []int64{7, 9})
	l.Clear()
	ontos(t, l, []int64{0, 0}, []int64{0, 0})
	mem := []int64{1, 2, 3}
	notes(t, l, Read{1, 2, 0}, api.OK)
	holds(t, l, mem, true)
	mem[1] = 5
	holds(t, l, mem, false)
	if !slices.Equal(mem, []int64{1, 5, 3}) {
		t.Error("Holds turns the memory", mem)
	}
}

// spoil: writes over all that a list that was answered lets be reached.
func spoil[T any](l []T, with T) {
	for i := range l[:cap(l)] {
		l[:cap(l)][i] = with
	}
}

// Rule 5: what is told is new, and later calls don't turn it
func TestApart(t *testing.T) {
	l := made(t, 8, 8, 8)
	for n := range 5 {
		notes(t, l, Read{n, 1, -1}, api.OK)
		writes(t, l, n, 2, api.OK)
		emits(t, l, 3, api.OK)
	}
	was := all{l.Reads(), l.Writes(), l.Outs()}
	for range 2 {
		spoil(l.Reads(), Read{99, 99, 99})
		spoil(l.Writes(), api.Cell{At: 99, Value: 99})
		spoil(l.Outs(), 99)
		is(t, l, was)
		notes(t, l, Read{5, 1, -1}, api.OK)
		writes(t, l, 5, 2, api.OK)
		emits(t, l, 3, api.OK)
		is(t, l, all{append(slices.Clone(was.reads), Read{5, 1, -1}), append(slices.Clone(was.writes), api.Cell{At: 5, Value: 2}), append(slices.Clone(was.outs), 3)})
		froms(t, l, 0, 7, true)
		writes(t, l, 0, 7, api.OK)
		l.Clear()
		for n := range 5 {
			if was.reads[n] != (Read{n, 1, -1}) || was.writes[n] != (api.Cell{At: n, Value: 2}) || was.outs[n] != 3 {
				t.Fatal("later calls turn what was told", was)
			}
			notes(t, l, Read{n, 1, -1}, api.OK)
			writes(t, l, n, 2, api.OK)
			emits(t, l, 3, api.OK)
		}
	}
}

// P2: two logs go their own ways
func TestTwoLogs(t *testing.T) {
	sum := []api.Red{{Op: api.RedSum}}
	a, b := made(t, 1, 1, 1, sum...), made(t, 1, 1, 1, sum...)
	notes(t, a, Read{1, 1, 1}, api.OK)
	writes(t, a, 2, 2, api.OK)
	emits(t, a, 3, api.OK)
	intos(t, a, 0, 4, true)
	is(t, b, all{})
	ontos(t, b, []int64{0}, []int64{0})
	notes(t, b, Read{5, 5, 5}, api.OK)
	intos(t, b, 0, 6, true)
	a.Clear()
	is(t, b, all{reads: []Read{{5, 5, 5}}})
	ontos(t, b, []int64{0}, []int64{6})
	ontos(t, a, []int64{0}, []int64{0})
}
