package mem

import (
	"maps"
	"math/rand"
	"slices"
	"testing"

	"outrider/api"
)

// someWord: small ones mostly, so that words are 0, or the same, often.
func someWord(r *rand.Rand) int64 {
	switch r.Intn(8) {
	case 0:
		return least
	case 1:
		return greatest
	case 2:
		return int64(r.Uint64())
	}
	return int64(r.Intn(4) - 1)
}

func someMemory(r *rand.Rand, words int) []int64 {
	m := make([]int64, words)
	for at := range m {
		m[at] = someWord(r)
	}
	return m
}

func someCells(r *rand.Rand, below int) []api.Cell {
	l := make([]api.Cell, r.Intn(6))
	for i := range l {
		l[i] = cell(r.Intn(below+2)-1, someWord(r))
	}
	return l
}

// ofAgain: a second way to say Of: the first cell that can't be is looked for, by a look back at those ahead of it.
func ofAgain(words int, cells []api.Cell) ([]int64, api.Errno) {
	if words <= 0 || words >= 65 {
		return nil, api.ErrWords
	}
	for i, c := range cells {
		if c.At <= -1 || c.At >= words {
			return nil, api.ErrAddr
		}
		if slices.ContainsFunc(cells[:i], func(x api.Cell) bool { return x.At == c.At }) {
			return nil, api.ErrTwice
		}
	}
	m := make([]int64, words)
	for at := range m {
		if i := slices.IndexFunc(cells, func(x api.Cell) bool { return x.At == at }); i >= 0 {
			m[at] = cells[i].Value
		}
	}
	return m, api.OK
}

// putAgain: a second way to say Put: of each place the last cell is looked for.
func putAgain(m []int64, cells []api.Cell) ([]int64, api.Errno) {
	if slices.ContainsFunc(cells, func(x api.Cell) bool { return x.At <= -1 || x.At >= len(m) }) {
		return nil, api.ErrAddr
	}
	back := slices.Clone(cells)
	slices.Reverse(back)
	l := slices.Clone(m)
	for at := range l {
		if i := slices.IndexFunc(back, func(x api.Cell) bool { return x.At == at }); i >= 0 {
			l[at] = back[i].Value
		}
	}
	return l, api.OK
}

// P13.1, P13.2: cells at random, held against a second way
func TestRandomOfAndPut(t *testing.T) {
	r := rand.New(rand.NewSource(13))
	seen := map[api.Errno]int{}
	for range 20000 {
		words := r.Intn(9) - 1
		if r.Intn(10) == 0 {
			words = 60 + r.Intn(7)
		}
		cells := someCells(r, max(words, 0))
		want, e := ofAgain(words, cells)
		of(t, words, cells, want, e)
		seen[e]++
		m := someMemory(r, max(words, 0))
		want, e = putAgain(m, cells)
		puts(t, m, cells, want, e)
	}
	for _, e := range []api.Errno{api.OK, api.ErrWords, api.ErrAddr, api.ErrTwice} {
		if seen[e] < 100 {
			t.Error("too few of", e, seen)
		}
	}
}

// P13.4: a memory is made again of its Cells; of Diff, Put on the first one, the second one
func TestMadeAgain(t *testing.T) {
	r := rand.New(rand.NewSource(134))
	for n := range 4000 {
		words := n%api.MaxWords + 1
		a, b := someMemory(r, words), someMemory(r, words)
		of(t, words, Cells(a), a, api.OK)
		puts(t, a, Diff(a, b), b, api.OK)
		puts(t, b, Diff(b, a), a, api.OK)
		puts(t, make([]int64, words), Cells(b), b, api.OK)
		short := b[:r.Intn(words+1)]
		puts(t, a, Diff(a, short), append(slices.Clone(short), a[len(short):]...), api.OK)
		puts(t, short, Diff(short, a), a[:len(short)], api.OK)
		for i, c := range Diff(a, b) {
			if a[c.At] == b[c.At] || c.Value != b[c.At] || i > 0 && Diff(a, b)[i-1].At >= c.At {
				t.Error(a, b, Diff(a, b))
			}
		}
	}
}

// P13.3, P13.4: calls at random, held against a map; an overlay's Cells, Put on a memory, give what Get gives, or the memory's word
func TestRandomOverlay(t *testing.T) {
	r := rand.New(rand.NewSource(133))
	var o Overlay
	laid := map[int]int64{}
	for range 5000 {
		switch r.Intn(40) {
		case 0:
			o.Clear()
			clear(laid)
		default:
			at, value := r.Intn(api.MaxWords+4)-2, someWord(r)
			is := at >= 0 && at < api.MaxWords
			sets(t, &o, at, value, is)
			if is {
				laid[at] = value
			}
		}
		var want []api.Cell
		for _, at := range slices.Sorted(maps.Keys(laid)) {
			want = append(want, cell(at, laid[at]))
		}
		holds(t, &o, want...)
		m := someMemory(r, api.MaxWords)
		all := slices.Clone(m)
		for at := range all {
			if value, is := o.Get(at); is {
				all[at] = value
			}
		}
		puts(t, m, o.Cells(), all, api.OK)
	}
}
