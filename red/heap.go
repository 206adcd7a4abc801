package red

import (
	"math"

	"outrider/api"
)

// Heap is what went into some reductions so far, each joined by itself.
type Heap struct {
	ops  []api.RedOp
	now  []int64 // as many as ops
	many int
}

// New: a heap into which nothing went; nil, if there are too many reductions, or one has no operation.
func New(reds []api.Red) (*Heap, api.Errno) {
	if len(reds) > api.MaxReds {
		return nil, api.ErrReds
	}
	h := &Heap{ops: make([]api.RedOp, len(reds)), now: make([]int64, len(reds))}
	for i, r := range reds {
		if !Right(r.Op) {
			return nil, api.ErrRed
		}
		h.ops[i] = r.Op
	}
	h.Clear()
	return h, api.OK
}

// Add: a number goes into a reduction; false, if there is none such.
func (h *Heap) Add(cell int, n int64) bool {
	if cell < 0 || cell >= len(h.ops) {
		return false
	}
	h.now[cell] = Join(h.ops[cell], h.now[cell], n)
	if h.many < math.MaxInt { // a count doesn't go round, and Set may have said the greatest one
		h.many++
	}
	return true
}

// Len: how many numbers went in.
func (h *Heap) Len() int {
	return h.many
}

// Now: what is in each.
func (h *Heap) Now() []int64 {
	l := make([]int64, len(h.now))
	copy(l, h.now)
	return l
}

// Set: so much is in each, of so many numbers; false, if these are not as many as there are reductions, or many is below 0.
func (h *Heap) Set(now []int64, many int) bool {
	if len(now) != len(h.ops) || many < 0 {
		return false
	}
	copy(h.now, now)
	h.many = many
	return true
}

// Onto: what stood in each ahead, joined with what is in it now; false, if these are not as many.
func (h *Heap) Onto(ahead []int64) ([]int64, bool) {
	if len(ahead) != len(h.ops) {
		return nil, false
	}
	l := make([]int64, len(ahead))
	for i, op := range h.ops {
		l[i] = Join(op, ahead[i], h.now[i])
	}
	return l, true
}

// Clear: nothing went in.
func (h *Heap) Clear() {
	for i, op := range h.ops {
		h.now[i] = Zero(op)
	}
	h.many = 0
}
