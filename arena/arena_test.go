package arena

import (
	"math"
	"slices"
	"testing"

	"outrider/api"
)

func made(t *testing.T, slots int) *Arena {
	t.Helper()
	a, e := New(slots)
	if a == nil || e != api.OK {
		t.Fatalf("New(%d): %v %d", slots, a, e)
	}
	return a
}

func takes(t *testing.T, a *Arena, want int) {
	t.Helper()
	if slot, e := a.Take(); slot != want || e != api.OK {
		t.Errorf("Take: %d %d, not %d", slot, e, want)
	}
}

// full: nothing can be taken, as often as it is asked, and nothing is changed by it.
func full(t *testing.T, a *Arena) {
	t.Helper()
	live := a.Live()
	for range 2 {
		if slot, e := a.Take(); slot != 0 || e != api.ErrFull {
			t.Errorf("Take: %d %d, not 0 %d", slot, e, api.ErrFull)
		}
		if a.Live() != live || a.Free() != 0 || len(a.Order()) != 0 {
			t.Error("a Take that found nothing has changed the arena")
		}
	}
}

func backs(t *testing.T, a *Arena, slot int, want api.Errno) {
	t.Helper()
	if e := a.Back(slot); e != want {
		t.Errorf("Back(%d): %d, not %d", slot, e, want)
	}
}

// is: so many slots, of which just these are free, in this order; asking changes nothing.
func is(t *testing.T, a *Arena, slots int, free ...int) {
	t.Helper()
	for range 2 {
		if l := a.Order(); !slices.Equal(l, free) {
			t.Errorf("Order: %v, not %v", l, free)
		}
		if a.Live() != slots-len(free) || a.Free() != len(free) {
			t.Errorf("Live %d, Free %d, not %d, %d", a.Live(), a.Free(), slots-len(free), len(free))
		}
		for slot := -2; slot < slots+3; slot++ {
			want := slot >= 0 && slot < slots && !slices.Contains(free, slot)
			if a.Used(slot) != want {
				t.Errorf("Used(%d) isn't %v", slot, want)
			}
		}
	}
}

// from: the numbers from one on below another.
func from(first, end int) []int {
	var l []int
	for n := first; n < end; n++ {
		l = append(l, n)
	}
	return l
}

// beyond: slots that an arena of so many hasn't.
func beyond(slots int) []int {
	return []int{math.MinInt, -1 << 32, -512, -slots - 1, -slots, -2, -1, slots, slots + 1, 2 * slots, 512, 513, 1 << 32, 1<<32 + 1, math.MaxInt - 1, math.MaxInt}
}

// P20.2: the chapter's example
func TestExample(t *testing.T) {
	a := made(t, 3)
	takes(t, a, 0)
	takes(t, a, 1)
	backs(t, a, 0, api.OK)
	takes(t, a, 0)
	takes(t, a, 2)
	full(t, a)
	backs(t, a, 7, api.ErrNone)
	is(t, a, 3)
}

// P20.1: how many slots may be, and one past each end
func TestNew(t *testing.T) {
	for _, slots := range []int{math.MinInt, -1 << 32, -513, -512, -1, 0, 513, 514, 1024, 1 << 32, 1<<32 + 1, math.MaxInt} {
		if a, e := New(slots); a != nil || e != api.ErrSize {
			t.Errorf("New(%d): %v %d, not %d", slots, a, e, api.ErrSize)
		}
	}
	for _, slots := range []int{1, 2, 3, 64, 511, 512} {
		is(t, made(t, slots), slots, from(0, slots)...)
	}
}

// P20.2, P20.4: those that never were given out go by their rising numbers, each once, till it is full
func TestTakeAll(t *testing.T) {
	for _, slots := range []int{1, 2, 7, 511, 512} {
		a := made(t, slots)
		for slot := range slots {
			takes(t, a, slot)
			if slots < 10 || slot%64 == 0 {
				is(t, a, slots, from(slot+1, slots)...)
			}
		}
		full(t, a)
		is(t, a, slots)
	}
}

// P20.2: all were given out and all taken back: the last one comes first
func TestAllBack(t *testing.T) {
	for _, slots := range []int{1, 2, 5, 512} {
		for _, falling := range []bool{false, true} {
			a := made(t, slots)
			for slot := range slots {
				takes(t, a, slot)
			}
			order := from(0, slots)
			if falling {
				slices.Reverse(order)
			}
			for _, slot := range order {
				backs(t, a, slot, api.OK)
			}
			slices.Reverse(order)
			is(t, a, slots, order...)
			for _, slot := range order {
				takes(t, a, slot)
			}
			full(t, a)
		}
	}
	a := made(t, 4)
	for slot := range 4 {
		takes(t, a, slot)
	}
	for _, slot := range []int{2, 0, 3, 1} {
		backs(t, a, slot, api.OK)
	}
	is(t, a, 4, 1, 3, 0, 2)
	takes(t, a, 1)
	takes(t, a, 3)
	backs(t, a, 1, api.OK)
	is(t, a, 4, 1, 0, 2)
	takes(t, a, 1)
	takes(t, a, 0)
	takes(t, a, 2)
	full(t, a)
}

// P20.2: those that were taken back go ahead of those that never were given out, greater or lesser
func TestSomeBack(t *testing.T) {
	a := made(t, 6)
	for slot := range 4 {
		takes(t, a, slot)
	}
	backs(t, a, 1, api.OK)
	is(t, a, 6, 1, 4, 5)
	backs(t, a, 3, api.OK)
	is(t, a, 6, 3, 1, 4, 5)
	takes(t, a, 3)
	is(t, a, 6, 1, 4, 5)
	backs(t, a, 0, api.OK)
	is(t, a, 6, 0, 1, 4, 5)
	takes(t, a, 0)
	takes(t, a, 1)
	takes(t, a, 4)
	backs(t, a, 2, api.OK)
	is(t, a, 6, 2, 5)
	takes(t, a, 2)
	takes(t, a, 5)
	full(t, a)
	is(t, a, 6)
}

// P20.2: the one slot of an arena, taken and taken back again and again
func TestOneSlot(t *testing.T) {
	a := made(t, 1)
	backs(t, a, 0, api.ErrNone)
	for range 700 { // more often than there are slots in the greatest arena
		is(t, a, 1, 0)
		takes(t, a, 0)
		full(t, a)
		is(t, a, 1)
		backs(t, a, 0, api.OK)
	}
}

// P20.2, P20.3: slots that there aren't, whatever is given out
func TestNoSuchSlot(t *testing.T) {
	for _, slots := range []int{1, 2, 5, 512} {
		a := made(t, slots)
		for _, taken := range []int{0, 1, slots} {
			for a.Live() < taken {
				takes(t, a, a.Live())
			}
			for _, slot := range beyond(slots) {
				if slot >= 0 && slot < slots {
					continue
				}
				if a.Used(slot) {
					t.Errorf("Used(%d) of %d slots", slot, slots)
				}
				backs(t, a, slot, api.ErrNone)
			}
			is(t, a, slots, from(taken, slots)...)
		}
	}
}

// P20.2: a slot that never was given out, one that isn't any more, and one that is again
func TestBackTwice(t *testing.T) {
	a := made(t, 3)
	for slot := range 3 {
		backs(t, a, slot, api.ErrNone)
	}
	is(t, a, 3, 0, 1, 2)
	takes(t, a, 0)
	takes(t, a, 1)
	backs(t, a, 2, api.ErrNone)
	is(t, a, 3, 2)
	backs(t, a, 0, api.OK)
	backs(t, a, 0, api.ErrNone)
	is(t, a, 3, 0, 2)
	backs(t, a, 1, api.OK)
	backs(t, a, 0, api.ErrNone)
	backs(t, a, 1, api.ErrNone)
	is(t, a, 3, 1, 0, 2)
	takes(t, a, 1)
	backs(t, a, 1, api.OK)
	backs(t, a, 1, api.ErrNone)
	is(t, a, 3, 1, 0, 2)
	takes(t, a, 1)
	takes(t, a, 0)
	takes(t, a, 2)
	full(t, a)
}

// Rule 5: what Order tells is new
func TestOrderApart(t *testing.T) {
	a := made(t, 5)
	for slot := range 3 {
		takes(t, a, slot)
	}
	backs(t, a, 0, api.OK)
	backs(t, a, 2, api.OK)
	told, again := a.Order(), a.Order()
	for i := range told[:cap(told)] {
		told[:cap(told)][i] = 9
	}
	if !slices.Equal(again, []int{2, 0, 3, 4}) {
		t.Error("two answers of Order share memory", again)
	}
	is(t, a, 5, 2, 0, 3, 4)
	takes(t, a, 2)
	backs(t, a, 1, api.OK)
	takes(t, a, 1)
	takes(t, a, 0)
	if !slices.Equal(again, []int{2, 0, 3, 4}) {
		t.Error("later calls turn what Order has told", again)
	}
}

// Rule 5: nor does it stand where slots that come back later are kept
func TestOrderApartLater(t *testing.T) {
	a := made(t, 8)
	for slot := range 8 {
		takes(t, a, slot)
	}
	for slot := range 8 {
		backs(t, a, slot, api.OK)
	}
	for slot := 7; slot > 1; slot-- {
		takes(t, a, slot)
	}
	told, again := a.Order(), a.Order()
	for i := range told[:cap(told)] {
		told[:cap(told)][i] = 9
	}
	backs(t, a, 6, api.OK)
	backs(t, a, 4, api.OK)
	if !slices.Equal(again, []int{1, 0}) {
		t.Error("later calls turn what Order has told", again)
	}
	is(t, a, 8, 4, 6, 1, 0)
}

// P2: two arenas go their own ways
func TestTwoArenas(t *testing.T) {
	a, b := made(t, 2), made(t, 2)
	takes(t, a, 0)
	is(t, b, 2, 0, 1)
	takes(t, b, 0)
	takes(t, b, 1)
	backs(t, a, 0, api.OK)
	is(t, b, 2)
	backs(t, b, 1, api.OK)
	is(t, a, 2, 0, 1)
	is(t, b, 2, 1)
}
