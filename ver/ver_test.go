package ver

import (
	"math"
	"slices"
	"testing"

	"outrider/api"
)

const (
	least    = math.MinInt64
	greatest = math.MaxInt64
)

func made(t *testing.T, words, room int) *Store {
	t.Helper()
	s, e := New(words, room)
	if s == nil || e != api.OK {
		t.Fatalf("New(%d, %d): %v %d", words, room, s, e)
	}
	return s
}

func puts(t *testing.T, s *Store, at, age int, value int64, want api.Errno) {
	t.Helper()
	if e := s.Put(at, age, value); e != want {
		t.Errorf("Put(%d, %d, %d): %d, not %d", at, age, value, e, want)
	}
}

func gets(t *testing.T, s *Store, at, age int, want int64) {
	t.Helper()
	if value, ok := s.Get(at, age); value != want || !ok {
		t.Errorf("Get(%d, %d): %d %v, not %d", at, age, value, ok, want)
	}
}

func getsNone(t *testing.T, s *Store, at, age int) {
	t.Helper()
	if value, ok := s.Get(at, age); value != 0 || ok {
		t.Errorf("Get(%d, %d): %d %v, not none", at, age, value, ok)
	}
}

func older(t *testing.T, s *Store, at, age int, want Version) {
	t.Helper()
	if v, ok := s.Older(at, age); v != want || !ok {
		t.Errorf("Older(%d, %d): %v %v, not %v", at, age, v, ok, want)
	}
}

func olderNone(t *testing.T, s *Store, at, age int) {
	t.Helper()
	if v, ok := s.Older(at, age); v != (Version{}) || ok {
		t.Errorf("Older(%d, %d): %v %v, not none", at, age, v, ok)
	}
}

func drops(t *testing.T, s *Store, at, age int, want bool) {
	t.Helper()
	if s.Drop(at, age) != want {
		t.Errorf("Drop(%d, %d) isn't %v", at, age, want)
	}
}

func dropsAll(t *testing.T, s *Store, age, want int) {
	t.Helper()
	if n := s.DropAll(age); n != want {
		t.Errorf("DropAll(%d): %d, not %d", age, n, want)
	}
}

// holds: just these versions are there, told from the word 0 on, by Chain, Ages, Many, Live, Free, Get and Older; asking changes nothing.
func holds(t *testing.T, s *Store, room int, chains ...[]Version) {
	t.Helper()
	for range 2 {
		many := map[int]int{}
		live := 0
		for at, want := range chains {
			if l := s.Chain(at); !slices.Equal(l, want) {
				t.Errorf("Chain(%d): %v, not %v", at, l, want)
			}
			holdsWord(t, s, at, want)
			for _, v := range want {
				many[v.Age]++
				live++
			}
		}
		var ages []int
		for age, n := range many {
			ages = append(ages, age)
			if s.Many(age) != n {
				t.Errorf("Many(%d): %d, not %d", age, s.Many(age), n)
			}
		}
		slices.Sort(ages)
		if l := s.Ages(); !slices.Equal(l, ages) {
			t.Errorf("Ages: %v, not %v", l, ages)
		}
		if s.Live() != live || s.Free() != room-live {
			t.Errorf("Live %d, Free %d, not %d, %d", s.Live(), s.Free(), live, room-live)
		}
	}
}

// holdsWord: of a word just these versions are found by Get and by Older, at their ages and around them.
func holdsWord(t *testing.T, s *Store, at int, want []Version) {
	t.Helper()
	olderNone(t, s, at, 0)
	for i, v := range want {
		gets(t, s, at, v.Age, v.Value)
		if i == 0 {
			olderNone(t, s, at, v.Age)
		} else {
			older(t, s, at, v.Age, want[i-1])
		}
		if v.Age < math.MaxInt {
			older(t, s, at, v.Age+1, v)
		}
		for _, near := range []int{v.Age - 1, v.Age + 1} {
			if !slices.ContainsFunc(want, func(x Version) bool { return x.Age == near }) {
				getsNone(t, s, at, near)
			}
		}
	}
	if n := len(want); n > 0 && want[n-1].Age < math.MaxInt {
		older(t, s, at, math.MaxInt, want[n-1])
	} else if n == 0 {
		olderNone(t, s, at, math.MaxInt)
	}
}

func below0() []int {
	return []int{math.MinInt, math.MinInt + 1, -1 << 32, -65, -64, -2, -1}
}

// noWords: places that a store of so many words hasn't.
func noWords(words int) []int {
	return append(below0(), -words, words, words+1, 65, 1<<32, 1<<32+1, math.MaxInt)
}

// P21.1 to P21.4: the chapter's example
func TestExample(t *testing.T) {
	s := made(t, 2, 3)
	puts(t, s, 0, 5, 50, api.OK)
	puts(t, s, 0, 2, 20, api.OK)
	older(t, s, 0, 5, Version{2, 20})
	olderNone(t, s, 0, 2)
	puts(t, s, 1, 5, 7, api.OK)
	puts(t, s, 1, 6, 8, api.ErrFull)
	puts(t, s, 0, 5, 51, api.OK)
	holds(t, s, 3, []Version{{2, 20}, {5, 51}}, []Version{{5, 7}})
	dropsAll(t, s, 5, 2)
	holds(t, s, 3, []Version{{2, 20}}, nil)
}

func refused(t *testing.T, words, room int, want api.Errno) {
	t.Helper()
	if s, e := New(words, room); s != nil || e != want {
		t.Errorf("New(%d, %d): %v %d, not %d", words, room, s, e, want)
	}
}

// P21.1: how many words and how much room there may be, one past each end, and which error is told first
func TestNew(t *testing.T) {
	rooms := []int{math.MinInt, -1 << 32, -512, -1, 0, 513, 514, 1024, 1 << 32, 1<<32 + 1, math.MaxInt}
	for _, words := range []int{math.MinInt, -1 << 32, -64, -1, 0, 65, 66, 128, 512, 1 << 32, 1<<32 + 1, math.MaxInt} {
		refused(t, words, 1, api.ErrWords)
		refused(t, words, 512, api.ErrWords)
		for _, room := range rooms {
			refused(t, words, room, api.ErrWords)
		}
	}
	for _, words := range []int{1, 2, 3, 63, 64} {
		for _, room := range rooms {
			refused(t, words, room, api.ErrSize)
		}
		for _, room := range []int{1, 2, 64, 65, 511, 512} {
			s := made(t, words, room)
			holds(t, s, room, make([][]Version, words)...)
		}
	}
}

// P21.2: places at both ends of the words, and one past them; ErrAddr ahead of ErrAge, both ahead of ErrFull
func TestPutErrors(t *testing.T) {
	for _, words := range []int{1, 2, 64} {
		for _, all := range []bool{false, true} { // is all room taken?
			s, want := made(t, words, 1), make([][]Version, words)
			full := api.OK
			if all {
				puts(t, s, 0, 3, 30, api.OK)
				want[0], full = []Version{{3, 30}}, api.ErrFull
			}
			for _, at := range noWords(words) {
				for _, age := range []int{math.MinInt, -1, 0, 3, math.MaxInt} {
					puts(t, s, at, age, 7, api.ErrAddr)
				}
			}
			for _, age := range below0() {
				puts(t, s, 0, age, 7, api.ErrAge)
				puts(t, s, words-1, age, 7, api.ErrAge)
			}
			holds(t, s, 1, want...)
			puts(t, s, words-1, 2, 7, full)
		}
	}
}

// P21.2: a version that is there gets the value, and only that one
func TestPutAgain(t *testing.T) {
	s := made(t, 2, 9)
	for age := range 4 {
		puts(t, s, 0, age, int64(age), api.OK)
		puts(t, s, 1, age, int64(age), api.OK)
	}
	for _, value := range []int64{0, -1, least, greatest, 2} {
		puts(t, s, 0, 2, value, api.OK)
		holds(t, s, 9, []Version{{0, 0}, {1, 1}, {2, value}, {3, 3}}, []Version{{0, 0}, {1, 1}, {2, 2}, {3, 3}})
	}
}

// P21.2: the last room, and one further; where all is taken, a version that is there gets its value still
func TestPutFull(t *testing.T) {
	s := made(t, 2, 3)
	puts(t, s, 0, 1, 10, api.OK)
	puts(t, s, 1, 1, 11, api.OK)
	puts(t, s, 1, 4, 41, api.OK)
	for range 2 {
		puts(t, s, 0, 0, 1, api.ErrFull)
		puts(t, s, 0, 2, 1, api.ErrFull)
		puts(t, s, 0, 4, 1, api.ErrFull)
		puts(t, s, 1, 2, 1, api.ErrFull)
		puts(t, s, 1, 9, 1, api.ErrFull)
	}
	holds(t, s, 3, []Version{{1, 10}}, []Version{{1, 11}, {4, 41}})
	puts(t, s, 1, 4, 0, api.OK)
	puts(t, s, 0, 1, least, api.OK)
	holds(t, s, 3, []Version{{1, least}}, []Version{{1, 11}, {4, 0}})
	puts(t, s, 0, 4, 1, api.ErrFull)
}

// P21.2, P21.5: the greatest store: as many versions as there is room for, spread over all words, and of one word alone
func TestGreatest(t *testing.T) {
	s, want := made(t, 64, 512), make([][]Version, 64)
	for age := 7; age >= 0; age-- {
		for at := range 64 {
			puts(t, s, at, age, int64(100*at+age), api.OK)
		}
	}
	for at := range 64 {
		puts(t, s, at, 8, 1, api.ErrFull)
		for age := range 8 {
			want[at] = append(want[at], Version{age, int64(100*at + age)})
		}
	}
	holds(t, s, 512, want...)
	dropsAll(t, s, 3, 64)
	for at := range 64 {
		want[at] = slices.Delete(want[at], 3, 4)
	}
	holds(t, s, 512, want...)

	s = made(t, 1, 512)
	var one []Version
	for i := range 512 {
		age := i * 77 % 512 // each once: 77 and 512 have no divisor in common
		puts(t, s, 0, age, int64(-age), api.OK)
		one = append(one, Version{i, int64(-i)})
	}
	puts(t, s, 0, 512, 1, api.ErrFull)
	holds(t, s, 512, one)
}

// P21.2, P21.3: ages put in whatever order stand rising; the greatest ages that there are
func TestRisingAges(t *testing.T) {
	order := []int{5, 0, math.MaxInt, 9, 1, 1 << 40, math.MaxInt - 1, 8}
	sorted := slices.Sorted(slices.Values(order))
	for turn := range order {
		s := made(t, 1, 8)
		var want []Version
		for i := range order {
			age := order[(i+turn)%len(order)]
			puts(t, s, 0, age, int64(age)-7, api.OK)
		}
		for _, age := range sorted {
			want = append(want, Version{age, int64(age) - 7})
		}
		holds(t, s, 8, want)
		older(t, s, 0, math.MaxInt, want[6])
	}
}

// P21.3: Older and Get where there is nothing: ages below 0, none older, no such word; between two versions
func TestOlderAndGet(t *testing.T) {
	s := made(t, 3, 9)
	puts(t, s, 1, 4, 40, api.OK)
	puts(t, s, 1, 9, 0, api.OK)
	puts(t, s, 2, 0, -1, api.OK)
	for _, age := range below0() {
		for at := range 3 {
			olderNone(t, s, at, age)
			getsNone(t, s, at, age)
		}
	}
	for age := range 5 {
		olderNone(t, s, 1, age)
	}
	for age := 5; age <= 9; age++ {
		older(t, s, 1, age, Version{4, 40})
	}
	for _, age := range []int{10, 11, 1 << 32, math.MaxInt} {
		older(t, s, 1, age, Version{9, 0})
		getsNone(t, s, 1, age)
	}
	gets(t, s, 1, 9, 0) // a version of the value 0 is one
	gets(t, s, 2, 0, -1)
	olderNone(t, s, 2, 0)
	older(t, s, 2, 1, Version{0, -1})
	for _, at := range noWords(3) {
		for _, age := range []int{math.MinInt, -1, 0, 4, 5, 9, 10, math.MaxInt} {
			olderNone(t, s, at, age)
			getsNone(t, s, at, age)
		}
	}
	holds(t, s, 9, nil, []Version{{4, 40}, {9, 0}}, []Version{{0, -1}})
}

// P21.3: Chain of a word without versions, of one that had some, and of no such word
func TestChain(t *testing.T) {
	s := made(t, 2, 4)
	puts(t, s, 1, 3, 1, api.OK)
	puts(t, s, 0, 3, 1, api.OK)
	drops(t, s, 0, 3, true)
	for _, at := range append(noWords(2), 0) {
		if l := s.Chain(at); len(l) != 0 {
			t.Errorf("Chain(%d): %v", at, l)
		}
	}
	holds(t, s, 4, nil, []Version{{3, 1}})
}

// P21.4: Drop of what there isn't: another age, another word, no such word, what has gone already
func TestDropNone(t *testing.T) {
	s := made(t, 2, 4)
	drops(t, s, 0, 0, false)
	puts(t, s, 0, 3, 30, api.OK)
	puts(t, s, 1, 5, 51, api.OK)
	want := [][]Version{{{3, 30}}, {{5, 51}}}
	for _, age := range append(below0(), 0, 1, 2, 4, 6, 1<<32+3, math.MaxInt) {
		drops(t, s, 0, age, false)
		drops(t, s, 1, age, false)
	}
	drops(t, s, 0, 5, false)
	drops(t, s, 1, 3, false)
	for _, at := range noWords(2) {
		for _, age := range []int{-1, 0, 3, 5} {
			drops(t, s, at, age, false)
		}
	}
	holds(t, s, 4, want...)
	drops(t, s, 0, 3, true)
	drops(t, s, 0, 3, false)
	holds(t, s, 4, nil, want[1])
}

// P21.4: Drop at the beginning, in the middle and at the end of a chain
func TestDrop(t *testing.T) {
	all := []Version{{1, 10}, {4, 40}, {5, 50}, {9, 90}}
	for i, gone := range all {
		s := made(t, 2, 8)
		for _, v := range all {
			puts(t, s, 0, v.Age, v.Value, api.OK)
			puts(t, s, 1, v.Age, -v.Value, api.OK)
		}
		drops(t, s, 0, gone.Age, true)
		left := slices.Delete(slices.Clone(all), i, i+1)
		holds(t, s, 8, left, []Version{{1, -10}, {4, -40}, {5, -50}, {9, -90}})
		if s.Many(gone.Age) != 1 {
			t.Error("Many", gone.Age, s.Many(gone.Age))
		}
		drops(t, s, 1, gone.Age, true)
		if s.Many(gone.Age) != 0 || slices.Contains(s.Ages(), gone.Age) {
			t.Error(gone.Age, "has versions still", s.Many(gone.Age), s.Ages())
		}
		puts(t, s, 0, gone.Age, 7, api.OK)
		want := slices.Clone(all)
		want[i].Value = 7
		if l := s.Chain(0); !slices.Equal(l, want) {
			t.Error(l, want)
		}
	}
}

// P21.4: DropAll of ages without versions, below 0 too, and of one with versions of several words
func TestDropAll(t *testing.T) {
	s := made(t, 4, 9)
	dropsAll(t, s, 0, 0)
	for _, v := range []struct{ at, age int }{{0, 2}, {0, 6}, {1, 2}, {1, 1}, {1, 3}, {3, 2}, {2, 6}} {
		puts(t, s, v.at, v.age, int64(10*v.age+v.at), api.OK)
	}
	for _, age := range append(below0(), 0, 4, 5, 7, 1<<32+2, math.MaxInt) {
		dropsAll(t, s, age, 0)
		if s.Many(age) != 0 {
			t.Error("Many", age, s.Many(age))
		}
	}
	holds(t, s, 9, []Version{{2, 20}, {6, 60}}, []Version{{1, 11}, {2, 21}, {3, 31}}, []Version{{6, 62}}, []Version{{2, 23}})
	dropsAll(t, s, 2, 3)
	holds(t, s, 9, []Version{{6, 60}}, []Version{{1, 11}, {3, 31}}, []Version{{6, 62}}, nil)
	dropsAll(t, s, 2, 0)
	dropsAll(t, s, 6, 2)
	dropsAll(t, s, 3, 1)
	dropsAll(t, s, 1, 1)
	holds(t, s, 9, nil, nil, nil, nil)
}

// P21.4, P21.5: room that was taken is there again, and what was there is not
func TestRoomAgain(t *testing.T) {
	s := made(t, 3, 2)
	for turn := range 600 { // more often than there is room in the greatest store
		age := turn * 3
		puts(t, s, 0, age, 1, api.OK)
		puts(t, s, 2, age+1, 2, api.OK)
		puts(t, s, 1, age, 3, api.ErrFull)
		drops(t, s, 0, age, true)
		puts(t, s, 1, age+1, 4, api.OK)
		puts(t, s, 0, age, 5, api.ErrFull)
		holds(t, s, 2, nil, []Version{{age + 1, 4}}, []Version{{age + 1, 2}})
		dropsAll(t, s, age+1, 2)
		holds(t, s, 2, nil, nil, nil)
	}
}

// P21.4: Ages and Many of ages with versions of several words
func TestAges(t *testing.T) {
	s := made(t, 64, 512)
	for _, age := range []int{30, 2, 17, 0, math.MaxInt, 5} {
		for at := range 64 {
			if at%2 == 0 || age > 5 {
				puts(t, s, at, age, 1, api.OK)
			}
		}
	}
	for range 50 { // the order of a map is another one from time to time
		if l := s.Ages(); !slices.Equal(l, []int{0, 2, 5, 17, 30, math.MaxInt}) {
			t.Fatal(l)
		}
	}
	if s.Many(2) != 32 || s.Many(30) != 64 || s.Many(math.MaxInt) != 64 || s.Many(1) != 0 {
		t.Error(s.Many(2), s.Many(30), s.Many(math.MaxInt), s.Many(1))
	}
	if s.Live() != 288 || s.Free() != 224 {
		t.Error(s.Live(), s.Free())
	}
}

// P21.5: what one age puts and drops leaves what others have
func TestAgesApart(t *testing.T) {
	s := made(t, 2, 12)
	others := [][]Version{{{1, 10}, {3, 30}, {8, 80}}, {{3, 31}}}
	for at, l := range others {
		for _, v := range l {
			puts(t, s, at, v.Age, v.Value, api.OK)
		}
	}
	for _, age := range []int{0, 2, 5, 9} {
		puts(t, s, 0, age, 1, api.OK)
		puts(t, s, 1, age, 2, api.OK)
		puts(t, s, 0, age, 3, api.OK)
		for at, l := range others {
			for _, v := range l {
				gets(t, s, at, v.Age, v.Value)
			}
		}
		drops(t, s, 0, age, true)
		dropsAll(t, s, age, 1)
		holds(t, s, 12, others...)
	}
}

// Rule 5: what Chain and Ages tell is new
func TestApart(t *testing.T) {
	s := made(t, 1, 8)
	for _, age := range []int{4, 1, 7} {
		puts(t, s, 0, age, int64(age), api.OK)
	}
	was := []Version{{1, 1}, {4, 4}, {7, 7}}
	chain, chainAgain, ages, agesAgain := s.Chain(0), s.Chain(0), s.Ages(), s.Ages()
	for i := range chain[:cap(chain)] {
		chain[:cap(chain)][i] = Version{99, 99}
	}
	for i := range ages[:cap(ages)] {
		ages[:cap(ages)][i] = 99
	}
	holds(t, s, 8, was)
	puts(t, s, 0, 2, 2, api.OK)
	puts(t, s, 0, 4, 9, api.OK)
	drops(t, s, 0, 1, true)
	if !slices.Equal(chainAgain, was) || !slices.Equal(agesAgain, []int{1, 4, 7}) {
		t.Error("another answer, or a later call, turns what was told", chainAgain, agesAgain)
	}
	holds(t, s, 8, []Version{{2, 2}, {4, 9}, {7, 7}})
}

// P2: two stores go their own ways
func TestTwoStores(t *testing.T) {
	a, b := made(t, 2, 2), made(t, 2, 2)
	puts(t, a, 0, 1, 10, api.OK)
	puts(t, b, 0, 1, 20, api.OK)
	puts(t, b, 1, 1, 21, api.OK)
	holds(t, a, 2, []Version{{1, 10}}, nil)
	dropsAll(t, a, 1, 1)
	holds(t, a, 2, nil, nil)
	holds(t, b, 2, []Version{{1, 20}}, []Version{{1, 21}})
}
