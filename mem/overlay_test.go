package mem

import (
	"math"
	"slices"
	"testing"

	"outrider/api"
)

// holds: just these cells are laid over, by Get at each place and beyond, by Len and by Cells; asking changes nothing.
func holds(t *testing.T, o *Overlay, want ...api.Cell) {
	t.Helper()
	was := *o
	words := map[int]int64{}
	for _, c := range want {
		words[c.At] = c.Value
	}
	for at := -2; at <= api.MaxWords+1; at++ {
		value, is := o.Get(at)
		if wantValue, wantIs := words[at]; value != wantValue || is != wantIs {
			t.Errorf("Get(%d): %d %v, not %d %v", at, value, is, wantValue, wantIs)
		}
	}
	if n := o.Len(); n != len(want) {
		t.Errorf("Len: %d, not %d", n, len(want))
	}
	if l := o.Cells(); !slices.Equal(l, want) {
		t.Errorf("Cells: %v, not %v", l, want)
	}
	if *o != was {
		t.Error("asking has changed the overlay")
	}
}

func sets(t *testing.T, o *Overlay, at int, value int64, want bool) {
	t.Helper()
	if o.Set(at, value) != want {
		t.Errorf("Set(%d, %d) isn't %v", at, value, want)
	}
}

func beyond() []int {
	return []int{math.MinInt, -1 << 32, -64, -2, -1, 64, 65, 128, 1 << 32, 1<<32 + 5, math.MaxInt}
}

// P13.3: an overlay's zero value
func TestOverlayZero(t *testing.T) {
	var o Overlay
	holds(t, &o)
	o.Clear()
	holds(t, &o)
	holds(t, new(Overlay))
}

// P13.3: the places at both ends, and beyond them
func TestOverlayPlaces(t *testing.T) {
	var o Overlay
	for _, at := range beyond() {
		sets(t, &o, at, 5, false)
		if value, is := o.Get(at); value != 0 || is {
			t.Errorf("Get(%d): %d %v", at, value, is)
		}
	}
	holds(t, &o)
	sets(t, &o, 63, greatest, true)
	holds(t, &o, cell(63, greatest))
	sets(t, &o, 0, least, true)
	holds(t, &o, cell(0, least), cell(63, greatest))
	for _, at := range beyond() {
		sets(t, &o, at, 5, false)
		if value, is := o.Get(at); value != 0 || is {
			t.Errorf("Get(%d): %d %v", at, value, is)
		}
	}
	holds(t, &o, cell(0, least), cell(63, greatest))
}

// P13.3: a word 0 is laid over like any other; a place that is set again has the later word, and counts once
func TestOverlaySet(t *testing.T) {
	var o Overlay
	sets(t, &o, 9, 0, true)
	holds(t, &o, cell(9, 0))
	sets(t, &o, 9, 4, true)
	holds(t, &o, cell(9, 4))
	sets(t, &o, 3, 1, true)
	sets(t, &o, 9, 4, true)
	holds(t, &o, cell(3, 1), cell(9, 4))
	sets(t, &o, 9, 0, true)
	sets(t, &o, 5, -1, true)
	holds(t, &o, cell(3, 1), cell(5, -1), cell(9, 0))
}

// P13.3: all places, set in an order of their own
func TestOverlayAll(t *testing.T) {
	var o Overlay
	var want []api.Cell
	for n := range api.MaxWords {
		at := n * 37 % api.MaxWords
		sets(t, &o, at, int64(at-5), true)
		if o.Len() != n+1 {
			t.Error(o.Len(), n)
		}
		want = append(want, cell(n, int64(n-5)))
	}
	holds(t, &o, want...)
	for _, at := range beyond() {
		sets(t, &o, at, 1, false)
	}
	holds(t, &o, want...)
}

// P13.3: behind Clear nothing is laid over, and it does all as at first
func TestOverlayClear(t *testing.T) {
	var o Overlay
	for at := range api.MaxWords {
		sets(t, &o, at, 8, true)
	}
	o.Clear()
	holds(t, &o)
	o.Clear()
	holds(t, &o)
	sets(t, &o, 7, 0, true)
	holds(t, &o, cell(7, 0))
	sets(t, &o, 1, 2, true)
	holds(t, &o, cell(1, 2), cell(7, 0))
}

// Rule 5: what Cells has answered is new memory each time, and isn't turned by what comes later
func TestOverlayNewMemory(t *testing.T) {
	var o Overlay
	sets(t, &o, 2, 3, true)
	sets(t, &o, 4, 5, true)
	l, other := o.Cells(), o.Cells()
	l[0] = cell(60, 60)
	holds(t, &o, cell(2, 3), cell(4, 5))
	sets(t, &o, 2, 9, true)
	o.Clear()
	if !slices.Equal(other, []api.Cell{cell(2, 3), cell(4, 5)}) {
		t.Error(other)
	}
}

// P2: no overlay has to do with another one
func TestOverlaysApart(t *testing.T) {
	var a, b Overlay
	sets(t, &a, 1, 1, true)
	sets(t, &b, 1, 2, true)
	sets(t, &b, 3, 4, true)
	holds(t, &a, cell(1, 1))
	a.Clear()
	holds(t, &b, cell(1, 2), cell(3, 4))
}
