package chunk

import (
	"math"
	"slices"
	"testing"

	"outrider/api"
)

func policies() []api.Policy {
	return []api.Policy{api.Static, api.Dynamic, api.Guided}
}

func made(t *testing.T, p api.Policy, size, workers, n int) *Dealer {
	t.Helper()
	d, e := New(p, size, workers, n)
	if d == nil || e != api.OK {
		t.Fatalf("New(%d, %d, %d, %d): %v %d", p, size, workers, n, d, e)
	}
	return d
}

func refused(t *testing.T, p api.Policy, size, workers, n int, want api.Errno) {
	t.Helper()
	if d, e := New(p, size, workers, n); d != nil || e != want {
		t.Errorf("New(%d, %d, %d, %d): %v %d, not %d", p, size, workers, n, d, e, want)
	}
}

func gets(t *testing.T, d *Dealer, w, from, to int) {
	t.Helper()
	if s, ok := d.Next(w); !ok || s != (Span{from, to}) {
		t.Errorf("Next(%d): %v %v, not %d to %d", w, s, ok, from, to)
	}
}

func getsNone(t *testing.T, d *Dealer, w int) {
	t.Helper()
	for range 2 { // asking again gives nothing either
		if s, ok := d.Next(w); ok || s != (Span{}) {
			t.Errorf("Next(%d): %v %v, not none", w, s, ok)
		}
	}
}

// is: so far it is; asking changes nothing.
func is(t *testing.T, d *Dealer, next int, turns ...int) {
	t.Helper()
	for range 2 {
		if n, l := d.Now(); n != next || !slices.Equal(l, turns) {
			t.Errorf("Now: %d %v, not %d %v", n, l, next, turns)
		}
	}
}

func sets(t *testing.T, d *Dealer, next int, turns []int, want bool) {
	t.Helper()
	was := slices.Clone(turns)
	if d.Set(next, turns) != want {
		t.Errorf("Set(%d, %v) isn't %v", next, turns, want)
	}
	if !slices.Equal(turns, was) {
		t.Error("Set has changed what it was handed")
	}
}

// P16.2: the chapter's examples
func TestExamples(t *testing.T) {
	for _, p := range []api.Policy{api.Static, api.Dynamic} {
		d := made(t, p, 2, 2, 5)
		gets(t, d, 0, 0, 2)
		gets(t, d, 1, 2, 4)
		gets(t, d, 0, 4, 5)
		getsNone(t, d, 1)
	}
	d := made(t, api.Guided, 1, 2, 10)
	gets(t, d, 0, 0, 3)
	gets(t, d, 1, 3, 5)
	gets(t, d, 0, 5, 7)
	gets(t, d, 1, 7, 8)
}

// P16.1: what may be: a dealer that has dealt out nothing
func TestNew(t *testing.T) {
	for _, p := range policies() {
		for _, size := range []int{1, 2, 199, 200} {
			for workers := 1; workers <= 8; workers++ {
				for _, n := range []int{0, 1, 2, 199, 200} {
					d := made(t, p, size, workers, n)
					is(t, d, 0, make([]int, workers)...)
				}
			}
		}
	}
}

// P16.1: what may not be, and which of several is told
func TestNewErrors(t *testing.T) {
	sizes := []int{math.MinInt, -200, -1, 0, 201, 1<<32 + 1, math.MaxInt}
	crews := []int{math.MinInt, -8, -1, 0, 9, 10, 1<<32 + 1, math.MaxInt}
	counts := []int{math.MinInt, -200, -1, 201, 1<<32 + 1, math.MaxInt}
	for _, p := range []api.Policy{math.MinInt, -1, 0, 4, 5, 1<<8 + 1, 1<<32 + 1, math.MaxInt} {
		refused(t, p, 1, 1, 1, api.ErrPolicy)
		refused(t, p, 0, 0, -1, api.ErrPolicy)
		refused(t, p, 1, 9, 1, api.ErrPolicy)
		refused(t, p, 1, 1, 201, api.ErrPolicy)
	}
	for _, p := range policies() {
		for _, size := range sizes {
			refused(t, p, size, 1, 1, api.ErrSize)
			for _, workers := range crews {
				refused(t, p, size, workers, 201, api.ErrSize)
			}
		}
		for _, workers := range crews {
			refused(t, p, 1, workers, 0, api.ErrWorkers)
			for _, n := range counts {
				refused(t, p, 200, workers, n, api.ErrWorkers)
			}
		}
		for _, n := range counts {
			refused(t, p, 1, 1, n, api.ErrTasks)
			refused(t, p, 200, 8, n, api.ErrTasks)
		}
	}
}

// P16.2: a worker that isn't there gets nothing, and takes nothing from the others
func TestNoWorker(t *testing.T) {
	for _, p := range policies() {
		for workers := 1; workers <= 8; workers++ {
			d := made(t, p, 50, workers, 200)
			for _, w := range []int{math.MinInt, -8, -1, workers, workers + 1, 1 << 32, math.MaxInt} {
				getsNone(t, d, w)
			}
			is(t, d, 0, make([]int, workers)...)
			gets(t, d, 0, 0, max(50, 100*int(p/api.Guided)/workers))
		}
		d := made(t, p, 2, 3, 12)
		if s, ok := d.Next(2); !ok || s.To-s.From != 2 { // the last one that there is
			t.Errorf("policy %d: %v %v", p, s, ok)
		}
	}
}

// P16.2, P16.3: Static: each worker its own chunks, in whatever order they ask; the last chunk of fewer ages
func TestStatic(t *testing.T) {
	d := made(t, api.Static, 3, 2, 14) // 0: 0-3 6-9 12-14; 1: 3-6 9-12
	gets(t, d, 1, 3, 6)
	is(t, d, 0, 0, 1)
	gets(t, d, 1, 9, 12)
	is(t, d, 0, 0, 2)
	getsNone(t, d, 1)
	is(t, d, 0, 0, 2)
	gets(t, d, 0, 0, 3)
	gets(t, d, 0, 6, 9)
	gets(t, d, 0, 12, 14)
	is(t, d, 0, 3, 2)
	getsNone(t, d, 0)
	getsNone(t, d, 1)
	is(t, d, 0, 3, 2)
}

// P16.2, P16.3: Static: more workers than chunks; chunks greater than all there is; each age a chunk
func TestStaticEdges(t *testing.T) {
	d := made(t, api.Static, 4, 8, 9)
	for w := 7; w >= 3; w-- {
		getsNone(t, d, w)
	}
	gets(t, d, 2, 8, 9)
	gets(t, d, 1, 4, 8)
	gets(t, d, 0, 0, 4)
	is(t, d, 0, 1, 1, 1, 0, 0, 0, 0, 0)

	d = made(t, api.Static, 200, 3, 200)
	getsNone(t, d, 1)
	gets(t, d, 0, 0, 200)
	getsNone(t, d, 0)

	d = made(t, api.Static, 1, 1, 200)
	for age := range 200 {
		gets(t, d, 0, age, age+1)
	}
	getsNone(t, d, 0)
	is(t, d, 0, 200)

	d = made(t, api.Static, 1, 8, 200)
	for turn := range 25 {
		gets(t, d, 7, 8*turn+7, 8*turn+8)
	}
	getsNone(t, d, 7)
	is(t, d, 0, 0, 0, 0, 0, 0, 0, 0, 25)
}

// P16.2, P16.3: Dynamic: the next ones, whoever asks
func TestDynamic(t *testing.T) {
	d := made(t, api.Dynamic, 3, 4, 11)
	gets(t, d, 2, 0, 3)
	is(t, d, 3, 0, 0, 0, 0)
	gets(t, d, 2, 3, 6)
	gets(t, d, 0, 6, 9)
	is(t, d, 9, 0, 0, 0, 0)
	gets(t, d, 3, 9, 11)
	is(t, d, 11, 0, 0, 0, 0)
	for w := range 4 {
		getsNone(t, d, w)
	}
	is(t, d, 11, 0, 0, 0, 0)

	d = made(t, api.Dynamic, 200, 2, 199)
	gets(t, d, 1, 0, 199)
	getsNone(t, d, 0)
	is(t, d, 199, 0, 0)

	d = made(t, api.Dynamic, 1, 8, 200)
	for age := range 200 {
		gets(t, d, age%8, age, age+1)
	}
	getsNone(t, d, 0)
}

// P16.2, P16.3: Guided: the share of what is left, rounded up, while it is above size, then size
func TestGuided(t *testing.T) {
	d := made(t, api.Guided, 3, 2, 25) // shares of 25, 18, 13, 9 by 4: 7, 5, 4, 3; then 6: 2
	gets(t, d, 0, 0, 7)
	is(t, d, 7, 0, 0)
	gets(t, d, 0, 7, 12)
	gets(t, d, 1, 12, 16)
	gets(t, d, 1, 16, 19)
	gets(t, d, 1, 19, 22)
	is(t, d, 22, 0, 0)
	gets(t, d, 0, 22, 25)
	is(t, d, 25, 0, 0)
	getsNone(t, d, 0)
	getsNone(t, d, 1)

	d = made(t, api.Guided, 1, 8, 200) // by 16: 12.5, 11.6..
	gets(t, d, 7, 0, 13)
	gets(t, d, 6, 13, 25)
	gets(t, d, 5, 25, 36)

	d = made(t, api.Guided, 1, 8, 17) // 17 by 16: 2; 15 by 16: 1
	gets(t, d, 0, 0, 2)
	gets(t, d, 0, 2, 3)
	d = made(t, api.Guided, 1, 8, 16) // 16 by 16: 1
	gets(t, d, 0, 0, 1)
}

// P16.2: Guided: the last chunk of fewer ages; a size above all there is; one worker
func TestGuidedEdges(t *testing.T) {
	d := made(t, api.Guided, 3, 2, 5)
	gets(t, d, 1, 0, 3)
	gets(t, d, 1, 3, 5)
	getsNone(t, d, 1)

	d = made(t, api.Guided, 200, 1, 150)
	gets(t, d, 0, 0, 150)
	getsNone(t, d, 0)

	d = made(t, api.Guided, 1, 1, 5) // 5 by 2: 3; 2 by 2: 1; 1
	gets(t, d, 0, 0, 3)
	gets(t, d, 0, 3, 4)
	gets(t, d, 0, 4, 5)
	getsNone(t, d, 0)
}

// P16.2, P16.3: nothing to deal out
func TestNoAges(t *testing.T) {
	for _, p := range policies() {
		d := made(t, p, 1, 2, 0)
		getsNone(t, d, 0)
		getsNone(t, d, 1)
		is(t, d, 0, 0, 0)
		sets(t, d, 0, []int{0, 0}, true)
		sets(t, d, 1, []int{0, 0}, false)
		sets(t, d, 0, []int{0, 1}, false)
		getsNone(t, d, 0)
	}
}

// P16.3: what Set takes is Now's; with what it refuses nothing changes
func TestSet(t *testing.T) {
	for _, p := range policies() {
		d := made(t, p, 2, 3, 20)
		d.Next(0)
		next, turns := d.Now()
		for _, n := range []int{math.MinInt, -1, 21, 22, 1 << 32, math.MaxInt} {
			sets(t, d, n, []int{0, 0, 0}, false)
			for at := range 3 {
				l := make([]int, 3)
				l[at] = n
				sets(t, d, 5, l, false)
			}
		}
		for _, l := range [][]int{nil, {}, {1}, {1, 2}, {1, 2, 3, 4}, make([]int, 8), make([]int, 1000)} {
			sets(t, d, 5, l, false)
			sets(t, d, next, l, false)
		}
		sets(t, d, 5, append(make([]int, 0, 3), 1, 2), false) // a place behind the end is none
		is(t, d, next, turns...)
		for _, n := range []int{0, 1, 19, 20} {
			sets(t, d, n, []int{0, 20, 7}, true)
			is(t, d, n, 0, 20, 7)
			sets(t, d, 20, []int{n, 0, 20}, true)
			is(t, d, 20, n, 0, 20)
		}
	}
}

// P16.3: what is refused doesn't turn what comes next
func TestNextBehindRefusedSet(t *testing.T) {
	for _, p := range policies() {
		d := made(t, p, 4, 2, 12)
		gets(t, d, 0, 0, 4)
		sets(t, d, 0, []int{0}, false)
		sets(t, d, 0, []int{0, -1}, false)
		sets(t, d, 13, []int{0, 0}, false)
		gets(t, d, 1, 4, 8)
		gets(t, d, 0, 8, 12)
	}
}

// P16.3: Next goes on from what Set said
func TestNextBehindSet(t *testing.T) {
	d := made(t, api.Static, 2, 2, 11)
	sets(t, d, 0, []int{1, 2}, true)
	gets(t, d, 0, 4, 6)
	gets(t, d, 1, 10, 11)
	is(t, d, 0, 2, 3)
	getsNone(t, d, 1)
	sets(t, d, 0, []int{0, 0}, true)
	gets(t, d, 1, 2, 4)
	gets(t, d, 0, 0, 2)
	sets(t, d, 0, []int{11, 3}, true)
	getsNone(t, d, 0)
	getsNone(t, d, 1)
	is(t, d, 0, 11, 3)

	d = made(t, api.Dynamic, 2, 2, 11)
	sets(t, d, 8, []int{0, 0}, true)
	gets(t, d, 1, 8, 10)
	gets(t, d, 0, 10, 11)
	getsNone(t, d, 0)
	sets(t, d, 3, []int{0, 0}, true)
	gets(t, d, 0, 3, 5)
	sets(t, d, 11, []int{0, 0}, true)
	getsNone(t, d, 1)

	d = made(t, api.Guided, 1, 2, 30)
	sets(t, d, 9, []int{0, 0}, true) // 21 by 4: 6
	gets(t, d, 1, 9, 15)
	is(t, d, 15, 0, 0)
	sets(t, d, 30, []int{0, 0}, true)
	getsNone(t, d, 1)
	sets(t, d, 0, []int{0, 0}, true)
	gets(t, d, 1, 0, 8)
}

// P16.3: the greatest turns there may be, of the greatest dealer
func TestGreatestTurns(t *testing.T) {
	d := made(t, api.Static, 200, 8, 200)
	l := []int{200, 200, 200, 200, 200, 200, 200, 200}
	sets(t, d, 200, l, true)
	for w := range 8 {
		getsNone(t, d, w)
	}
	is(t, d, 200, l...)
}

// P16.3: what Set was handed isn't kept, and what Now tells is new
func TestApart(t *testing.T) {
	for _, p := range policies() {
		d := made(t, p, 1, 2, 9)
		handed := []int{1, 2, 3}[:2]
		sets(t, d, 3, handed, true)
		handed[0], handed[1] = 7, 8
		is(t, d, 3, 1, 2)
		next, told := d.Now()
		_, again := d.Now()
		told[0], told[1] = 5, 6
		is(t, d, next, 1, 2)
		if !slices.Equal(again, []int{1, 2}) {
			t.Error("two answers of Now share memory")
		}
		d.Next(0)
		if !slices.Equal(again, []int{1, 2}) {
			t.Error("Next turns what Now has told")
		}
	}
}

// P16.4: two dealers go their own ways
func TestTwoDealers(t *testing.T) {
	for _, p := range policies() {
		a, b := made(t, p, 2, 2, 8), made(t, p, 2, 2, 8)
		gets(t, a, 0, 0, 2)
		gets(t, a, 1, 2, 4)
		is(t, b, 0, 0, 0)
		gets(t, b, 0, 0, 2)
		sets(t, b, 8, []int{8, 8}, true)
		gets(t, a, 0, 4, 6)
		getsNone(t, b, 1)
		gets(t, a, 1, 6, 8)
	}
}
