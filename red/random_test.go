package red

import (
	"math/rand"
	"slices"
	"testing"

	"outrider/api"
)

func someWord(r *rand.Rand) int64 {
	if l := edges(); r.Intn(2) == 0 {
		return l[r.Intn(len(l))]
	}
	return int64(r.Uint64())
}

func someOps(r *rand.Rand) []api.RedOp {
	l := make([]api.RedOp, r.Intn(api.MaxReds+1))
	for i := range l {
		l[i] = ops()[r.Intn(7)]
	}
	return l
}

func someWords(r *rand.Rand, many int) []int64 {
	l := make([]int64, many)
	for i := range l {
		l[i] = someWord(r)
	}
	return l
}

func someIntos(r *rand.Rand, reds int) []api.Into {
	if reds == 0 {
		return nil
	}
	l := make([]api.Into, r.Intn(12))
	for i := range l {
		l[i] = api.Into{Cell: r.Intn(reds), Value: someWord(r)}
	}
	return l
}

func filled(t *testing.T, l []api.RedOp, intos []api.Into) *Heap {
	t.Helper()
	h := made(t, l...)
	for _, x := range intos {
		adds(t, h, x.Cell, x.Value, true)
	}
	return h
}

func ontoIt(t *testing.T, h *Heap, ahead []int64) []int64 {
	t.Helper()
	l, ok := h.Onto(ahead)
	if !ok {
		t.Fatalf("Onto(%v): false", ahead)
	}
	return l
}

// P14.4: what went into two heaps, one joined behind the other, is what comes of all in one heap, in whatever order
func TestHeapsJoined(t *testing.T) {
	r := rand.New(rand.NewSource(14))
	for range 5000 {
		l := someOps(r)
		first, second := someIntos(r, len(l)), someIntos(r, len(l))
		ahead := someWords(r, len(l))
		a, b := filled(t, l, first), filled(t, l, second)
		want := slices.Clone(ahead)
		for _, x := range slices.Concat(first, second) {
			want[x.Cell] = joined(l[x.Cell], want[x.Cell], x.Value)
		}
		all := slices.Concat(first, second)
		for range 3 {
			onto(t, filled(t, l, all), ahead, want, true)
			r.Shuffle(len(all), func(i, j int) { all[i], all[j] = all[j], all[i] })
		}
		onto(t, b, ontoIt(t, a, ahead), want, true)
		onto(t, a, ontoIt(t, b, ahead), want, true)
		sets(t, b, ontoIt(t, b, a.Now()), a.Len()+b.Len(), true)
		onto(t, b, ahead, want, true)
		is(t, b, len(all), b.Now()...)
	}
}

// P14.1: Fold of numbers at random is the same in whatever order, and in two parts
func TestFoldInParts(t *testing.T) {
	r := rand.New(rand.NewSource(141))
	for n := range 5000 {
		op := ops()[n%7]
		l := someWords(r, r.Intn(20))
		want := Zero(op)
		for _, x := range l {
			want = joined(op, want, x)
		}
		cut := r.Intn(len(l) + 1)
		parts := Join(op, Fold(op, l[:cut]...), Fold(op, l[cut:]...))
		if whole := Fold(op, l...); whole != want || parts != want {
			t.Errorf("Fold(%d, %v): %d, in parts %d, not %d", op, l, whole, parts, want)
		}
		r.Shuffle(len(l), func(i, j int) { l[i], l[j] = l[j], l[i] })
		if Fold(op, l...) != want {
			t.Errorf("Fold(%d, %v) isn't the same in all orders", op, l)
		}
	}
}

// P14.3: calls at random, held against lists of what went in
func TestRandomCalls(t *testing.T) {
	r := rand.New(rand.NewSource(143))
	for range 500 {
		l := someOps(r)
		h := made(t, l...)
		now, many := h.Now(), 0
		for range 60 {
			switch r.Intn(8) {
			case 0:
				h.Clear()
				many = 0
				for i, op := range l {
					now[i] = Zero(op)
				}
			case 1:
				to, count := someWords(r, r.Intn(api.MaxReds+2)), r.Intn(50)-5
				may := len(to) == len(l) && count >= 0
				sets(t, h, to, count, may)
				if may {
					now, many = to, count
				}
			case 2:
				ahead := someWords(r, r.Intn(api.MaxReds+2))
				if len(ahead) != len(l) {
					onto(t, h, ahead, nil, false)
					continue
				}
				want := make([]int64, len(l))
				for i, op := range l {
					want[i] = joined(op, ahead[i], now[i])
				}
				onto(t, h, ahead, want, true)
			default:
				cell, n := r.Intn(api.MaxReds+3)-1, someWord(r)
				may := cell >= 0 && cell < len(l)
				adds(t, h, cell, n, may)
				if may {
					now[cell] = joined(l[cell], now[cell], n)
					many++
				}
			}
			is(t, h, many, now...)
		}
	}
}
