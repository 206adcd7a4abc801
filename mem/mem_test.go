package mem

import (
	"math"
	"slices"
	"testing"

	"outrider/api"
)

const (
	least    = math.MinInt64
	greatest = math.MaxInt64
)

func cell(at int, value int64) api.Cell {
	return api.Cell{At: at, Value: value}
}

// filled: a list whose words behind its length are none of its own: a call that reads or hands them out is found.
func filled[T any](other T, l ...T) []T {
	long := make([]T, 0, len(l)+4)
	long = append(long, l...)
	long = append(long, other, other, other, other)
	return long[:len(l)]
}

func of(t *testing.T, words int, cells []api.Cell, want []int64, wantErr api.Errno) {
	t.Helper()
	was := slices.Clone(cells)
	m, e := Of(words, cells)
	if e != wantErr || !slices.Equal(m, want) {
		t.Errorf("Of(%d, %v): %v %d, not %v %d", words, cells, m, e, want, wantErr)
	}
	if !slices.Equal(cells, was) {
		t.Errorf("Of(%d, %v) has changed its cells", words, was)
	}
}

func puts(t *testing.T, m []int64, cells []api.Cell, want []int64, wantErr api.Errno) {
	t.Helper()
	wasWords, was := slices.Clone(m), slices.Clone(cells)
	l, e := Put(m, cells)
	if e != wantErr || !slices.Equal(l, want) {
		t.Errorf("Put(%v, %v): %v %d, not %v %d", m, cells, l, e, want, wantErr)
	}
	if !slices.Equal(m, wasWords) || !slices.Equal(cells, was) {
		t.Errorf("Put(%v, %v) has changed what it was handed", wasWords, was)
	}
}

// P13.1, P13.2: the chapter's examples
func TestExamples(t *testing.T) {
	of(t, 3, []api.Cell{cell(1, 5)}, []int64{0, 5, 0}, api.OK)
	of(t, 65, nil, nil, api.ErrWords)
	of(t, 2, []api.Cell{cell(2, 0)}, nil, api.ErrAddr)
	of(t, 2, []api.Cell{cell(0, 1), cell(0, 1)}, nil, api.ErrTwice)
	if l := Diff([]int64{1, 2, 3}, []int64{1, 4}); !slices.Equal(l, []api.Cell{cell(1, 4)}) {
		t.Error(l)
	}
}

// P13.1: how many words may be, and one past each end; nothing else of the call is looked at then
func TestOfWords(t *testing.T) {
	for _, words := range []int{math.MinInt, -1 << 32, -64, -1, 0, 65, 66, 128, 1 << 32, 1<<32 + 1, math.MaxInt} {
		of(t, words, nil, nil, api.ErrWords)
		of(t, words, []api.Cell{}, nil, api.ErrWords)
		of(t, words, []api.Cell{cell(0, 1)}, nil, api.ErrWords)
		of(t, words, []api.Cell{cell(-1, 1)}, nil, api.ErrWords)
		of(t, words, []api.Cell{cell(0, 1), cell(0, 1)}, nil, api.ErrWords)
	}
	for _, words := range []int{1, 2, 3, 63, 64} {
		of(t, words, nil, make([]int64, words), api.OK)
		of(t, words, []api.Cell{}, make([]int64, words), api.OK)
	}
}

// P13.1: places at both ends of the words, and one past them
func TestOfPlaces(t *testing.T) {
	for _, words := range []int{1, 2, 5, 63, 64} {
		for _, at := range []int{math.MinInt, -1 << 32, -words, -1, words, words + 1, 65, 1 << 32, 1<<32 + words - 1, math.MaxInt} {
			of(t, words, []api.Cell{cell(at, 7)}, nil, api.ErrAddr)
			of(t, words, []api.Cell{cell(at, 0)}, nil, api.ErrAddr)
		}
		for _, value := range []int64{0, 1, -1, least, greatest} {
			for _, at := range []int{0, words / 2, words - 1} {
				want := make([]int64, words)
				want[at] = value
				of(t, words, []api.Cell{cell(at, value)}, want, api.OK)
			}
		}
	}
}

// P13.1: all places, told in falling order
func TestOfAllPlaces(t *testing.T) {
	var l []api.Cell
	want := make([]int64, api.MaxWords)
	for at := api.MaxWords - 1; at >= 0; at-- {
		l = append(l, cell(at, int64(at)*3-90))
		want[at] = int64(at)*3 - 90
	}
	of(t, api.MaxWords, l, want, api.OK)
	of(t, api.MaxWords, append(l, cell(17, 0)), nil, api.ErrTwice)
	of(t, api.MaxWords-1, l, nil, api.ErrAddr)
}

// P13.1: two cells of one place, whatever they tell, and wherever they stand; which of two errors is told first
func TestOfTwice(t *testing.T) {
	of(t, 4, []api.Cell{cell(3, 0), cell(3, 0)}, nil, api.ErrTwice)
	of(t, 4, []api.Cell{cell(3, 0), cell(3, 1)}, nil, api.ErrTwice)
	of(t, 4, []api.Cell{cell(3, 1), cell(3, 0)}, nil, api.ErrTwice)
	of(t, 4, []api.Cell{cell(3, 1), cell(0, 2), cell(1, 2), cell(3, 2)}, nil, api.ErrTwice)
	of(t, 4, []api.Cell{cell(0, 1), cell(0, 1), cell(4, 1)}, nil, api.ErrTwice)
	of(t, 4, []api.Cell{cell(0, 1), cell(4, 1), cell(0, 1)}, nil, api.ErrAddr)
	of(t, 4, []api.Cell{cell(-1, 1), cell(-1, 1)}, nil, api.ErrAddr)
	of(t, 4, []api.Cell{cell(4, 1), cell(0, 1), cell(0, 1)}, nil, api.ErrAddr)
	of(t, 4, []api.Cell{cell(2, 1), cell(1, 1), cell(0, 1)}, []int64{1, 1, 1, 0}, api.OK)
}

// P13.2: Cells
func TestCells(t *testing.T) {
	for _, x := range []struct {
		m    []int64
		want []api.Cell
	}{
		{nil, nil},
		{[]int64{}, nil},
		{[]int64{0}, nil},
		{[]int64{0, 0, 0}, nil},
		{[]int64{5}, []api.Cell{cell(0, 5)}},
		{[]int64{0, -1, 0, least, greatest, 0}, []api.Cell{cell(1, -1), cell(3, least), cell(4, greatest)}},
		{[]int64{3, 2, 1}, []api.Cell{cell(0, 3), cell(1, 2), cell(2, 1)}},
		{filled[int64](9, 0, 1), []api.Cell{cell(1, 1)}},
		{append(make([]int64, 99), 1), []api.Cell{cell(99, 1)}}, // more words than a job's memory may have
	} {
		was := slices.Clone(x.m)
		if l := Cells(x.m); !slices.Equal(l, x.want) || !slices.Equal(x.m, was) {
			t.Errorf("Cells(%v): %v, not %v; %v", was, l, x.want, x.m)
		}
	}
}

// P13.2: Diff, with lists of the same and of unlike lengths
func TestDiff(t *testing.T) {
	long := make([]int64, 100)
	for _, x := range []struct {
		a, b []int64
		want []api.Cell
	}{
		{nil, nil, nil},
		{nil, []int64{1}, nil},
		{[]int64{1}, nil, nil},
		{[]int64{}, []int64{1, 2}, nil},
		{[]int64{1, 2}, []int64{1, 2}, nil},
		{[]int64{1, 2}, []int64{1, 2, 3}, nil},
		{[]int64{1, 2, 3}, []int64{1, 2}, nil},
		{[]int64{1, 2, 3}, []int64{0, 2, 4}, []api.Cell{cell(0, 0), cell(2, 4)}},
		{[]int64{0, 2, 4}, []int64{1, 2, 3}, []api.Cell{cell(0, 1), cell(2, 3)}},
		{[]int64{0, 0}, []int64{0, 9, 9}, []api.Cell{cell(1, 9)}},
		{[]int64{0, 9, 9}, []int64{0, 0}, []api.Cell{cell(1, 0)}},
		{[]int64{least, greatest}, []int64{greatest, least}, []api.Cell{cell(0, greatest), cell(1, least)}},
		{filled[int64](8, 1, 2), filled[int64](9, 1, 3), []api.Cell{cell(1, 3)}},
		{filled[int64](8, 1, 2), []int64{1, 2, 3, 4}, nil},
		{long, append(slices.Clone(long[:99]), 1), []api.Cell{cell(99, 1)}},
	} {
		wasA, wasB := slices.Clone(x.a), slices.Clone(x.b)
		if l := Diff(x.a, x.b); !slices.Equal(l, x.want) {
			t.Errorf("Diff(%v, %v): %v, not %v", x.a, x.b, l, x.want)
		}
		if !slices.Equal(x.a, wasA) || !slices.Equal(x.b, wasB) {
			t.Errorf("Diff(%v, %v) has changed what it was handed", wasA, wasB)
		}
	}
}

// P13.2: Put
func TestPut(t *testing.T) {
	puts(t, nil, nil, nil, api.OK)
	puts(t, []int64{}, []api.Cell{}, nil, api.OK)
	puts(t, nil, []api.Cell{cell(0, 0)}, nil, api.ErrAddr)
	puts(t, []int64{1, 2}, nil, []int64{1, 2}, api.OK)
	puts(t, []int64{1, 2, 3}, []api.Cell{cell(2, 0), cell(0, least)}, []int64{least, 2, 0}, api.OK)
	puts(t, make([]int64, 100), []api.Cell{cell(99, 1)}, append(make([]int64, 99), 1), api.OK)
	for _, at := range []int{math.MinInt, -1 << 32, -3, -1, 3, 4, 63, 64, 1 << 32, 1<<32 + 1, math.MaxInt} {
		puts(t, []int64{1, 2, 3}, []api.Cell{cell(at, 7)}, nil, api.ErrAddr)
		puts(t, []int64{1, 2, 3}, []api.Cell{cell(1, 9), cell(at, 7)}, nil, api.ErrAddr)
		puts(t, []int64{1, 2, 3}, []api.Cell{cell(at, 7), cell(1, 9)}, nil, api.ErrAddr)
		puts(t, filled[int64](6, 1, 2, 3), []api.Cell{cell(at, 7)}, nil, api.ErrAddr)
	}
}

// P13.2: of two cells of one place the later one's word stands
func TestPutTwice(t *testing.T) {
	puts(t, []int64{1, 2}, []api.Cell{cell(1, 5), cell(1, 6)}, []int64{1, 6}, api.OK)
	puts(t, []int64{1, 2}, []api.Cell{cell(1, 6), cell(0, 3), cell(1, 0)}, []int64{3, 0}, api.OK)
	puts(t, []int64{1, 2}, []api.Cell{cell(1, 5), cell(1, 2)}, []int64{1, 2}, api.OK)
}

// Rule 5: what is answered is new memory, and nothing that was handed in is kept
func TestNewMemory(t *testing.T) {
	m, l := filled[int64](9, 1, 0, 3), filled(cell(9, 9), cell(0, 4), cell(2, 5))
	made, _ := Of(3, l)
	put, _ := Put(m, l)
	same, _ := Put(m, nil)
	cells, apart := Cells(m), Diff(m, []int64{0, 0, 0})
	clear(m[:cap(m)])
	clear(l[:cap(l)])
	if !slices.Equal(made, []int64{4, 0, 5}) || !slices.Equal(put, made) || !slices.Equal(same, []int64{1, 0, 3}) {
		t.Error(made, put, same)
	}
	if !slices.Equal(cells, []api.Cell{cell(0, 1), cell(2, 3)}) || !slices.Equal(apart, []api.Cell{cell(0, 0), cell(2, 0)}) {
		t.Error(cells, apart)
	}
	for _, x := range [][]int64{made, put, same} {
		for i := range x[:cap(x)] {
			x[:cap(x)][i] = 7
		}
	}
	for _, n := range m[:cap(m)] {
		if n != 0 {
			t.Error("an answer is what was handed in", m[:cap(m)])
		}
	}
}
