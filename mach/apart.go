package mach

import (
	"slices"

	"outrider/api"
	"outrider/mem"
	"outrider/red"
)

// apart is what a task has done that runs behind: without any bound, and seen by nobody else till it commits.
type apart struct {
	words mem.Overlay
	outs  []int64
	heap  *red.Heap
}

// newApart is of reductions that may be.
func newApart(reds []api.Red) *apart {
	heap, _ := red.New(reds)
	return &apart{heap: heap}
}

// Writes: the words that it has written, rising.
func (a *apart) Writes() []api.Cell {
	return a.words.Cells()
}

// Outs: what it has put out.
func (a *apart) Outs() []int64 {
	return slices.Clone(a.outs)
}

// Onto: the reductions, with what it has put into them.
func (a *apart) Onto(reds []int64) ([]int64, bool) {
	return a.heap.Onto(reds)
}

// Lens: it keeps no reads, since nobody can write ahead of the oldest task.
func (a *apart) Lens() (int, int, int) {
	return 0, a.words.Len(), len(a.outs)
}

// Clear: it has done nothing.
func (a *apart) Clear() {
	a.words.Clear()
	a.outs = nil
	a.heap.Clear()
}
