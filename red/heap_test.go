package red

import (
	"math"
	"slices"
	"testing"

	"outrider/api"
)

// made: a heap of these operations.
func made(t *testing.T, l ...api.RedOp) *Heap {
	t.Helper()
	reds := make([]api.Red, len(l))
	for i, op := range l {
		reds[i].Op = op
	}
	h, e := New(reds)
	if e != api.OK || h == nil {
		t.Fatalf("New(%v): %v %d", reds, h, e)
	}
	return h
}

// is: so much is in each, and so many numbers went in; asking changes nothing.
func is(t *testing.T, h *Heap, many int, now ...int64) {
	t.Helper()
	for range 2 {
		if l := h.Now(); !slices.Equal(l, now) || h.Len() != many {
			t.Errorf("%v, %d; not %v, %d", l, h.Len(), now, many)
		}
	}
}

func adds(t *testing.T, h *Heap, cell int, n int64, want bool) {
	t.Helper()
	if h.Add(cell, n) != want {
		t.Errorf("Add(%d, %d) isn't %v", cell, n, want)
	}
}

func sets(t *testing.T, h *Heap, now []int64, many int, want bool) {
	t.Helper()
	was := slices.Clone(now)
	if h.Set(now, many) != want {
		t.Errorf("Set(%v, %d) isn't %v", now, many, want)
	}
	if !slices.Equal(now, was) {
		t.Error("Set has changed what it was handed")
	}
}

func onto(t *testing.T, h *Heap, ahead []int64, want []int64, wantIs bool) {
	t.Helper()
	was, now, many := slices.Clone(ahead), h.Now(), h.Len()
	l, ok := h.Onto(ahead)
	if !slices.Equal(l, want) || ok != wantIs {
		t.Errorf("Onto(%v): %v %v, not %v %v", ahead, l, ok, want, wantIs)
	}
	if !slices.Equal(ahead, was) {
		t.Error("Onto has changed what it was handed")
	}
	is(t, h, many, now...)
}

// P14.3: the chapter's example
func TestHeapExample(t *testing.T) {
	h := made(t, api.RedSum, api.RedMax)
	adds(t, h, 0, 5, true)
	adds(t, h, 0, 2, true)
	adds(t, h, 1, 4, true)
	is(t, h, 3, 7, 4)
	onto(t, h, []int64{10, 3}, []int64{17, 4}, true)
}

// P14.2: of each operation a heap; in each reduction is its Zero, whatever its Init
func TestNew(t *testing.T) {
	zeros := []int64{0, 1, greatest, least, -1, 0, 0}
	for i, op := range ops() {
		for _, init := range []int64{0, 1, -1, least, greatest} {
			h, e := New([]api.Red{{Op: op, Init: init}})
			if e != api.OK {
				t.Fatal(op, init, e)
			}
			is(t, h, 0, zeros[i])
		}
	}
	is(t, made(t, api.RedXor, api.RedMin, api.RedProd, api.RedAnd), 0, 0, greatest, 1, -1)
	is(t, made(t, api.RedSum, api.RedSum), 0, 0, 0)
}

func news(t *testing.T, reds []api.Red, want api.Errno) {
	t.Helper()
	was := slices.Clone(reds)
	h, e := New(reds)
	if e != want || (h != nil) != (want == api.OK) {
		t.Errorf("New(%v): %v %d, not %d", reds, h, e, want)
	}
	if !slices.Equal(reds, was) {
		t.Error("New has changed what it was handed")
	}
}

// P14.2: how many there may be, and which; too many is told ahead of one that isn't right
func TestNewErrors(t *testing.T) {
	some := []api.Red{{Op: 1}, {Op: 2, Init: 9}, {Op: 7}, {Op: 3}, {Op: 5}, {Op: 6}}
	for n := range 5 {
		news(t, some[:n], api.OK)
	}
	news(t, some[:5], api.ErrReds)
	news(t, some, api.ErrReds)
	news(t, make([]api.Red, 5), api.ErrReds)
	news(t, make([]api.Red, 1000), api.ErrReds)
	for _, op := range others() {
		for n := 1; n <= 4; n++ {
			for at := range n {
				l := slices.Clone(some[:n])
				l[at].Op = op
				news(t, l, api.ErrRed)
			}
		}
		l := slices.Clone(some[:5])
		l[0].Op = op
		news(t, l, api.ErrReds)
	}
}

// P14.2, P14.3: a heap of no reduction
func TestHeapOfNone(t *testing.T) {
	for _, reds := range [][]api.Red{nil, {}} {
		h, e := New(reds)
		if e != api.OK || h == nil {
			t.Fatal(h, e)
		}
		is(t, h, 0)
		adds(t, h, 0, 1, false)
		adds(t, h, -1, 1, false)
		is(t, h, 0)
		onto(t, h, nil, nil, true)
		onto(t, h, []int64{}, nil, true)
		onto(t, h, []int64{1}, nil, false)
		sets(t, h, []int64{1}, 3, false)
		sets(t, h, nil, -1, false)
		is(t, h, 0)
		sets(t, h, nil, 3, true)
		is(t, h, 3)
		sets(t, h, []int64{}, 2, true)
		is(t, h, 2)
		h.Clear()
		is(t, h, 0)
	}
}

// P14.3: Add, of each operation, with words that go round
func TestAdd(t *testing.T) {
	for _, op := range ops() {
		h := made(t, op)
		all := Zero(op)
		for i, n := range edges() {
			adds(t, h, 0, n, true)
			all = joined(op, all, n)
			is(t, h, i+1, all)
		}
	}
	h := made(t, api.RedSum, api.RedProd)
	adds(t, h, 0, greatest, true)
	adds(t, h, 0, 1, true)
	adds(t, h, 1, least, true)
	adds(t, h, 1, -1, true)
	is(t, h, 4, least, least)
}

// P14.3: what turns nothing counts, too; one reduction has nothing to do with another
func TestAddCounts(t *testing.T) {
	h := made(t, api.RedSum, api.RedMin, api.RedSum)
	adds(t, h, 0, 0, true)
	adds(t, h, 1, greatest, true)
	is(t, h, 2, 0, greatest, 0)
	adds(t, h, 2, 4, true)
	is(t, h, 3, 0, greatest, 4)
}

// P14.3: Add to a reduction that isn't there changes nothing
func TestAddToNone(t *testing.T) {
	for n := 1; n <= 4; n++ {
		h := made(t, ops()[:n]...)
		adds(t, h, n-1, 5, true)
		now := h.Now()
		for _, cell := range []int{math.MinInt, -1 << 32, -2, -1, n, n + 1, 7, 1 << 32, 1<<32 + n - 1, math.MaxInt} {
			adds(t, h, cell, 5, false)
			is(t, h, 1, now...)
		}
	}
}

// P14.3: Set, and Len behind it, behind Add and behind Clear
func TestSet(t *testing.T) {
	h := made(t, api.RedSum, api.RedMax)
	adds(t, h, 0, 5, true)
	sets(t, h, []int64{100, -7}, 9, true)
	is(t, h, 9, 100, -7)
	adds(t, h, 0, 1, true)
	adds(t, h, 1, -8, true)
	adds(t, h, 2, 1, false)
	is(t, h, 11, 101, -7)
	onto(t, h, []int64{-1, -2}, []int64{100, -2}, true)
	sets(t, h, []int64{least, greatest}, 0, true)
	is(t, h, 0, least, greatest)
	h.Clear()
	is(t, h, 0, 0, least)
	adds(t, h, 1, 3, true)
	is(t, h, 1, 0, 3)
}

// P14.3: Set that can't be changes nothing
func TestSetRefused(t *testing.T) {
	h := made(t, api.RedSum, api.RedMax)
	adds(t, h, 0, 5, true)
	sets(t, h, nil, 2, false)
	sets(t, h, []int64{}, 2, false)
	sets(t, h, []int64{1}, 2, false)
	sets(t, h, make([]int64, 2, 4)[:1], 2, false)
	sets(t, h, []int64{1, 2, 3}, 2, false)
	sets(t, h, make([]int64, 1000), 2, false)
	for _, many := range []int{-1, -2, -1 << 32, math.MinInt} {
		sets(t, h, []int64{8, 9}, many, false)
		sets(t, h, []int64{8}, many, false)
	}
	is(t, h, 1, 5, least)
}

// Rule 6: Len doesn't go round behind the greatest number that Set may say
func TestLenAtItsMost(t *testing.T) {
	h := made(t, api.RedSum)
	sets(t, h, []int64{1}, math.MaxInt-1, true)
	adds(t, h, 0, 1, true)
	is(t, h, math.MaxInt, 2)
	adds(t, h, 0, 1, true)
	adds(t, h, 0, 1, true)
	is(t, h, math.MaxInt, 4)
	h.Clear()
	is(t, h, 0, 0)
}

// P14.3: Onto, with lists that are too short or too long
func TestOnto(t *testing.T) {
	h := made(t, api.RedSum, api.RedMin, api.RedXor)
	onto(t, h, []int64{4, 5, 6}, []int64{4, 5, 6}, true)
	adds(t, h, 0, greatest, true)
	adds(t, h, 1, -3, true)
	adds(t, h, 2, 3, true)
	onto(t, h, []int64{1, 5, 6}, []int64{least, -3, 5}, true)
	onto(t, h, []int64{1, -5, 6}, []int64{least, -5, 5}, true)
	for _, n := range []int{0, 1, 2, 4, 5, 1000} {
		onto(t, h, make([]int64, n), nil, false)
	}
	onto(t, h, nil, nil, false)
	onto(t, h, []int64{1, 2, 3}[:2], nil, false)
}

// P14.3: behind Clear it does all as at first
func TestClear(t *testing.T) {
	h := made(t, api.RedProd, api.RedAnd, api.RedMin, api.RedMax)
	h.Clear()
	is(t, h, 0, 1, -1, greatest, least)
	for cell := range 4 {
		adds(t, h, cell, 0, true)
	}
	is(t, h, 4, 0, 0, 0, 0)
	h.Clear()
	is(t, h, 0, 1, -1, greatest, least)
	adds(t, h, 0, 6, true)
	adds(t, h, 1, 6, true)
	is(t, h, 2, 6, 6, greatest, least)
}

// Rule 5: no call keeps what it is handed; what is answered is new memory
func TestHeapNewMemory(t *testing.T) {
	reds := []api.Red{{Op: api.RedSum}, {Op: api.RedProd}}
	h, e := New(reds)
	if e != api.OK {
		t.Fatal(e)
	}
	reds[0].Op, reds[1].Op = api.RedMin, 99
	now := []int64{5, 7}
	sets(t, h, now, 2, true)
	now[0], now[1] = 1000, 1000
	adds(t, h, 0, 1, true)
	adds(t, h, 1, 2, true)
	is(t, h, 4, 6, 14)
	told := h.Now()
	told[0] = 55
	is(t, h, 4, 6, 14)
	ahead := []int64{10, 10}
	l, _ := h.Onto(ahead)
	ahead[0] = 0
	h.Clear()
	adds(t, h, 0, 3, true)
	if !slices.Equal(l, []int64{16, 140}) || told[1] != 14 {
		t.Error(l, told)
	}
	l[0] = 77
	is(t, h, 1, 3, 1)
}

// P2: no heap has to do with another one
func TestHeapsApart(t *testing.T) {
	reds := []api.Red{{Op: api.RedSum}}
	a, _ := New(reds)
	b, _ := New(reds)
	adds(t, a, 0, 5, true)
	is(t, b, 0, 0)
	sets(t, b, a.Now(), 1, true)
	adds(t, b, 0, 1, true)
	is(t, a, 1, 5)
	a.Clear()
	is(t, b, 2, 6)
}
