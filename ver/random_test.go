package ver

import (
	"cmp"
	"math/rand"
	"slices"
	"testing"

	"outrider/api"
)

type entry struct {
	at int
	Version
}

// heap: a second way: all versions in one list, in the order in which they came.
type heap struct {
	words, room int
	all         []entry
}

func (x *heap) place(at, age int) int {
	return slices.IndexFunc(x.all, func(y entry) bool { return y.at == at && y.Age == age })
}

func (x *heap) put(at, age int, value int64) api.Errno {
	if at < 0 || at >= x.words {
		return api.ErrAddr
	}
	if age < 0 {
		return api.ErrAge
	}
	if i := x.place(at, age); i >= 0 {
		x.all[i].Value = value
		return api.OK
	}
	if len(x.all) == x.room {
		return api.ErrFull
	}
	x.all = append(x.all, entry{at, Version{age, value}})
	return api.OK
}

func (x *heap) drop(is func(entry) bool) int {
	was := len(x.all)
	x.all = slices.DeleteFunc(x.all, is)
	return was - len(x.all)
}

func (x *heap) chains() [][]Version {
	l := make([][]Version, x.words)
	for _, y := range x.all {
		l[y.at] = append(l[y.at], y.Version)
	}
	for _, chain := range l {
		slices.SortFunc(chain, func(a, b Version) int { return cmp.Compare(a.Age, b.Age) })
	}
	return l
}

func (x *heap) older(at, age int) (Version, bool) {
	best := Version{Age: -1}
	for _, y := range x.all {
		if y.at == at && y.Age < age && y.Age > best.Age {
			best = y.Version
		}
	}
	if best.Age < 0 {
		return Version{}, false
	}
	return best, true
}

// step: one call at random of both.
func step(t *testing.T, r *rand.Rand, s *Store, x *heap, seen map[api.Errno]int) {
	t.Helper()
	at, age, value := r.Intn(x.words), r.Intn(9), int64(r.Intn(5)-2)
	if r.Intn(9) == 0 {
		at = r.Intn(x.words+2) - 1
	}
	if r.Intn(9) == 0 {
		age = -1
	}
	switch r.Intn(12) {
	case 0:
		dropsAll(t, s, age, x.drop(func(y entry) bool { return y.Age == age }))
	case 1, 2, 3:
		drops(t, s, at, age, x.drop(func(y entry) bool { return y.at == at && y.Age == age }) == 1)
	default:
		e := x.put(at, age, value)
		puts(t, s, at, age, value, e)
		seen[e]++
	}
	want, wantIs := x.older(at, age)
	if v, ok := s.Older(at, age); v != want || ok != wantIs {
		t.Errorf("Older(%d, %d): %v %v, not %v %v", at, age, v, ok, want, wantIs)
	}
}

// P21.2 to P21.5: calls at random, held against a list
func TestRandom(t *testing.T) {
	r := rand.New(rand.NewSource(21))
	seen := map[api.Errno]int{}
	for n := range 300 {
		words, room := n%5+1, r.Intn(20)+1
		s, x := made(t, words, room), &heap{words: words, room: room}
		for range 60 {
			step(t, r, s, x, seen)
			holds(t, s, room, x.chains()...)
		}
	}
	for _, e := range []api.Errno{api.OK, api.ErrAddr, api.ErrAge, api.ErrFull} {
		if seen[e] < 300 {
			t.Error("too few of", e, seen)
		}
	}
}
