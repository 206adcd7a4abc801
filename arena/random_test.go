package arena

import (
	"math/rand"
	"slices"
	"testing"

	"outrider/api"
)

// row: a second way: all free slots in one list, in the order in which they go; a slot that comes back is put at its head.
type row struct {
	slots int
	free  []int
}

func (x *row) take() (int, api.Errno) {
	if len(x.free) == 0 {
		return 0, api.ErrFull
	}
	slot := x.free[0]
	x.free = slices.Clone(x.free[1:])
	return slot, api.OK
}

func (x *row) back(slot int) api.Errno {
	if slot < 0 || slot >= x.slots || slices.Contains(x.free, slot) {
		return api.ErrNone
	}
	x.free = append([]int{slot}, x.free...)
	return api.OK
}

// P20.2, P20.3, P20.4: calls at random, mostly taking or mostly giving back by turns, held against a list
func TestRandom(t *testing.T) {
	r := rand.New(rand.NewSource(20))
	seen := map[api.Errno]int{}
	for n := range 400 {
		slots := n%12 + 1
		a, x := made(t, slots), &row{slots, from(0, slots)}
		out := map[int]int{}
		for call := range 60 {
			want := 3 // of 10: how often one is taken
			if call/15%2 == 0 {
				want = 8
			}
			if r.Intn(10) < want {
				slot, e := a.Take()
				wantSlot, wantErr := x.take()
				if slot != wantSlot || e != wantErr {
					t.Fatalf("Take: %d %d, not %d %d", slot, e, wantSlot, wantErr)
				}
				seen[e]++
				if e == api.OK {
					out[slot]++
				}
			} else {
				slot := r.Intn(slots+2) - 1
				e := x.back(slot)
				backs(t, a, slot, e)
				seen[e]++
				if e == api.OK {
					out[slot]--
				}
			}
			is(t, a, slots, x.free...)
			for slot, times := range out {
				if times < 0 || times > 1 {
					t.Fatalf("slot %d is given out %d times", slot, times)
				}
			}
		}
	}
	for _, e := range []api.Errno{api.OK, api.ErrFull, api.ErrNone} {
		if seen[e] < 500 {
			t.Error("too few of", e, seen)
		}
	}
}

// P20.4: the same in the greatest arena
func TestRandomGreatest(t *testing.T) {
	r := rand.New(rand.NewSource(204))
	a, x := made(t, api.MaxArena), &row{api.MaxArena, from(0, api.MaxArena)}
	for call := range 3000 {
		if r.Intn(10) < 6 {
			slot, e := a.Take()
			if wantSlot, wantErr := x.take(); slot != wantSlot || e != wantErr {
				t.Fatalf("Take: %d %d, not %d %d", slot, e, wantSlot, wantErr)
			}
		} else {
			slot := r.Intn(api.MaxArena)
			backs(t, a, slot, x.back(slot))
		}
		if call%97 == 0 {
			is(t, a, api.MaxArena, x.free...)
		}
	}
	is(t, a, api.MaxArena, x.free...)
}
