package mem

import (
	"outrider/api"
)

// Overlay is what is laid over a memory, without turning it. It is made of arrays, so that a copy of it goes its own way.
type Overlay struct {
	words [api.MaxWords]int64 // 0 where nothing is laid
	laid  [api.MaxWords]bool
}

// Get: the word that was laid over a place, and true; else 0 and false.
func (o *Overlay) Get(at int) (int64, bool) {
	if !within(at, api.MaxWords) {
		return 0, false
	}
	return o.words[at], o.laid[at]
}

// Set: this word is laid over a place; false, where there is none.
func (o *Overlay) Set(at int, value int64) bool {
	if !within(at, api.MaxWords) {
		return false
	}
	o.words[at], o.laid[at] = value, true
	return true
}

// Len: over how many places something is laid.
func (o *Overlay) Len() int {
	many := 0
	for _, is := range o.laid {
		if is {
			many++
		}
	}
	return many
}

// Cells: what is laid over, rising.
func (o *Overlay) Cells() []api.Cell {
	var l []api.Cell
	for at, is := range o.laid {
		if is {
			l = append(l, api.Cell{At: at, Value: o.words[at]})
		}
	}
	return l
}

// Clear: nothing is laid over any more.
func (o *Overlay) Clear() {
	*o = Overlay{}
}
