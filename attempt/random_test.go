package attempt

import (
	"math/rand"
	"slices"
	"testing"

	"outrider/api"
	"outrider/red"
)

// record: a second way: all that was told to it, one behind the other; what it has is found out of that anew each time.
type record struct {
	room  [3]int
	reds  []api.Red
	notes []Read
	puts  []api.Cell
	outs  []int64
	ins   []api.Into
}

func (x *record) cells() []api.Cell {
	last := map[int]int64{}
	var l []api.Cell
	for _, c := range x.puts {
		if _, has := last[c.At]; !has {
			l = append(l, api.Cell{At: c.At})
		}
		last[c.At] = c.Value
	}
	for i := range l {
		l[i].Value = last[l[i].At]
	}
	return l
}

func (x *record) has(at int) bool {
	return slices.ContainsFunc(x.puts, func(c api.Cell) bool { return c.At == at })
}

func (x *record) readAt(at int) int {
	return slices.IndexFunc(x.notes, func(r Read) bool { return r.At == at })
}

func (x *record) note(r Read) api.Errno {
	if x.readAt(r.At) >= 0 {
		return api.ErrTwice
	}
	if len(x.notes) >= x.room[0] {
		return api.ErrFull
	}
	x.notes = append(x.notes, r)
	return api.OK
}

func (x *record) write(at int, value int64) api.Errno {
	if !x.has(at) && len(x.cells()) >= x.room[1] {
		return api.ErrFull
	}
	x.puts = append(x.puts, api.Cell{At: at, Value: value})
	return api.OK
}

func (x *record) emit(n int64) api.Errno {
	if len(x.outs) >= x.room[2] {
		return api.ErrFull
	}
	x.outs = append(x.outs, n)
	return api.OK
}

func (x *record) onto(ahead []int64) []int64 {
	l := slices.Clone(ahead)
	for _, in := range x.ins {
		l[in.Cell] = red.Join(x.reds[in.Cell].Op, l[in.Cell], in.Value)
	}
	return l
}

func (x *record) holds(mem []int64) bool {
	for _, r := range x.notes {
		if r.At < 0 || r.At >= len(mem) || mem[r.At] != r.Value {
			return false
		}
	}
	return true
}

// withoutHeld: the log's reads, but those whose word is in the memory what it was.
func withoutHeld(t *testing.T, l *Log, mem []int64) *Log {
	t.Helper()
	less := made(t, api.MaxLog, 1, 1)
	for _, r := range l.Reads() {
		if r.At < 0 || r.At >= len(mem) || mem[r.At] != r.Value {
			notes(t, less, r, api.OK)
		}
	}
	return less
}

// step: one call at random of both.
func step(t *testing.T, r *rand.Rand, l *Log, x *record, seen map[api.Errno]int) {
	t.Helper()
	at, value, age := r.Intn(9)-2, int64(r.Intn(3)-1), r.Intn(5)-1
	e := api.OK
	switch r.Intn(16) {
	case 0, 1, 2, 3:
		e = x.note(Read{at, value, age})
		notes(t, l, Read{at, value, age}, e)
	case 4, 5, 6, 7:
		e = x.write(at, value)
		room(t, l, at, e == api.OK)
		writes(t, l, at, value, e)
	case 8, 9, 10:
		e = x.emit(value)
		emits(t, l, value, e)
	case 11, 12:
		i := x.readAt(at)
		froms(t, l, at, age, i >= 0)
		if i >= 0 {
			x.notes[i].From = age
		}
	case 13, 14:
		is := at >= 0 && at < len(x.reds)
		intos(t, l, at, value, is)
		if is {
			x.ins = append(x.ins, api.Into{Cell: at, Value: value})
		}
	default:
		if r.Intn(6) == 0 {
			l.Clear()
			*x = record{room: x.room, reds: x.reds}
		}
	}
	seen[e]++
}

// P22.2 to P22.5: calls at random, held against a record of them
func TestRandom(t *testing.T) {
	r := rand.New(rand.NewSource(22))
	seen := map[api.Errno]int{}
	held := 0
	for range 400 {
		x := &record{room: [3]int{r.Intn(8) + 1, r.Intn(8) + 1, r.Intn(8) + 1}}
		for range r.Intn(5) {
			x.reds = append(x.reds, api.Red{Op: api.RedOp(r.Intn(7) + 1), Init: int64(r.Intn(3))})
		}
		l := made(t, x.room[0], x.room[1], x.room[2], x.reds...)
		for range 50 {
			step(t, r, l, x, seen)
			is(t, l, all{x.notes, x.cells(), x.outs})
			ahead := make([]int64, len(x.reds))
			for i := range ahead {
				ahead[i] = int64(r.Intn(9) - 4)
			}
			ontos(t, l, ahead, x.onto(ahead))
			mem := make([]int64, r.Intn(8))
			for i := range mem {
				mem[i] = int64(r.Intn(2))
			}
			for _, note := range x.notes {
				if note.At >= 0 && note.At < len(mem) && r.Intn(5) > 0 {
					mem[note.At] = note.Value
				}
			}
			holds(t, l, mem, x.holds(mem))
			holds(t, withoutHeld(t, l, mem), mem, x.holds(mem))
			if len(x.notes) > 0 && x.holds(mem) {
				held++
			}
		}
	}
	for _, e := range []api.Errno{api.OK, api.ErrFull, api.ErrTwice} {
		if seen[e] < 500 {
			t.Error("too few of", e, seen)
		}
	}
	if held < 500 {
		t.Error("too few memories that hold", held)
	}
}

// P22.5: a log that is cleared answers whatever is done with it as a new one does
func TestRandomCleared(t *testing.T) {
	r := rand.New(rand.NewSource(225))
	for range 300 {
		size := [3]int{r.Intn(4) + 1, r.Intn(4) + 1, r.Intn(4) + 1}
		reds := []api.Red{{Op: api.RedOp(r.Intn(7) + 1)}}
		was := made(t, size[0], size[1], size[2], reds...)
		for range r.Intn(30) {
			step(t, r, was, &record{room: size, reds: reds, notes: was.Reads(), puts: was.Writes(), outs: was.Outs()}, map[api.Errno]int{})
		}
		was.Clear()
		x := &record{room: size, reds: reds}
		for range 30 {
			step(t, r, was, x, map[api.Errno]int{})
			is(t, was, all{x.notes, x.cells(), x.outs})
			ontos(t, was, []int64{3}, x.onto([]int64{3}))
		}
	}
}
