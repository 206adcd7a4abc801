package chunk

import (
	"math/rand"
	"slices"
	"testing"

	"outrider/api"
)

// table: a second way to deal: the chunks of each worker (with Static), or the ages that nobody got, laid out one by one.
type table struct {
	p       api.Policy
	size, n int
	own     [][]Span
	left    []int
}

func laidOut(p api.Policy, size, workers, n, next int, turns []int) *table {
	x := &table{p: p, size: size, n: n, own: make([][]Span, workers)}
	for at := 0; at < n; at += size {
		j := at / size % workers
		x.own[j] = append(x.own[j], Span{at, min(at+size, n)})
	}
	for w, turn := range turns {
		x.own[w] = x.own[w][min(turn, len(x.own[w])):]
	}
	for age := next; age < n; age++ {
		x.left = append(x.left, age)
	}
	return x
}

func (x *table) next(w int) (Span, bool) {
	if w < 0 || w >= len(x.own) {
		return Span{}, false
	}
	if x.p == api.Static {
		if len(x.own[w]) == 0 {
			return Span{}, false
		}
		s := x.own[w][0]
		x.own[w] = x.own[w][1:]
		return s, true
	}
	if len(x.left) == 0 {
		return Span{}, false
	}
	many := x.size
	for x.p == api.Guided && many*2*len(x.own) < len(x.left) {
		many++
	}
	many = min(many, len(x.left))
	s := Span{x.left[0], x.left[many-1] + 1}
	x.left = x.left[many:]
	return s, true
}

func someTurns(r *rand.Rand, workers, n int) []int {
	l := make([]int, workers)
	for i := range l {
		l[i] = r.Intn(min(n, 9) + 1)
	}
	return l
}

// P16.2, P16.3: dealers at random, held against ages laid out, with a Set now and then
func TestRandom(t *testing.T) {
	r := rand.New(rand.NewSource(16))
	for range 3000 {
		p, size, workers, n := policies()[r.Intn(3)], 1+r.Intn(1+r.Intn(40)), 1+r.Intn(8), r.Intn(201)
		d := made(t, p, size, workers, n)
		x := laidOut(p, size, workers, n, 0, nil)
		for range 60 {
			if r.Intn(25) == 0 {
				next, turns := r.Intn(n+1), someTurns(r, workers, n)
				sets(t, d, next, turns, true)
				x = laidOut(p, size, workers, n, next, turns)
			}
			w := r.Intn(workers+2) - 1
			got, ok := d.Next(w)
			if want, wantIs := x.next(w); got != want || ok != wantIs {
				t.Fatalf("policy %d size %d workers %d n %d: Next(%d): %v %v, not %v %v", p, size, workers, n, w, got, ok, want, wantIs)
			}
		}
	}
}

// dealt: who got which age, if anybody did, and which was the last that each worker got.
type dealt struct {
	p             api.Policy
	size, workers int
	got           []bool
	last          []int
}

// least: the first age that nobody got.
func (x *dealt) least() int {
	if at := slices.Index(x.got, false); at >= 0 {
		return at
	}
	return len(x.got)
}

// lays: a chunk is a worker's now: none of its ages was anybody's, and all are above those that the worker got.
func (x *dealt) lays(t *testing.T, w int, s Span) {
	t.Helper()
	if s.From <= x.last[w] || s.From >= s.To || s.To > len(x.got) {
		t.Fatalf("%v behind %d of %d", s, x.last[w], len(x.got))
	}
	for age := s.From; age < s.To; age++ {
		if x.got[age] {
			t.Fatalf("%d is dealt out twice", age)
		}
		x.got[age] = true
	}
	x.last[w] = s.To - 1
}

// asks: a worker asks; the least age that nobody got is the first of what its worker gets, or whoever asks.
func (x *dealt) asks(t *testing.T, d *Dealer, w int) bool {
	t.Helper()
	least := x.least()
	its := x.p != api.Static || least/x.size%x.workers == w
	s, ok := d.Next(w)
	if least < len(x.got) && its && (!ok || s.From != least) {
		t.Fatalf("policy %d: worker %d gets %v %v, not %d", x.p, w, s, ok, least)
	}
	if ok {
		x.lays(t, w, s)
	}
	return ok
}

// far: Now tells the first age that nobody got, but with Static, and how often each worker got something with Static.
func (x *dealt) far(t *testing.T, d *Dealer, turns []int) {
	t.Helper()
	if x.p == api.Static {
		is(t, d, 0, turns...)
		return
	}
	is(t, d, x.least(), make([]int, x.workers)...)
}

// P16.3, P16.4: whoever asks in whatever order: no age twice, each worker's rise, all are dealt out in the end
func TestAllDealtOut(t *testing.T) {
	r := rand.New(rand.NewSource(164))
	for range 1500 {
		p, size, workers, n := policies()[r.Intn(3)], 1+r.Intn(1+r.Intn(200)), 1+r.Intn(8), r.Intn(201)
		d := made(t, p, size, workers, n)
		x := &dealt{p: p, size: size, workers: workers, got: make([]bool, n), last: slices.Repeat([]int{-1}, workers)}
		turns := make([]int, workers)
		ask := func(w int) bool {
			ok := x.asks(t, d, w)
			if ok {
				turns[w]++
			}
			return ok
		}
		for range r.Intn(40) {
			ask(r.Intn(workers))
			x.far(t, d, turns)
		}
		for _, w := range r.Perm(workers) { // each asks till it gets nothing any more
			for ask(w) {
			}
			x.far(t, d, turns)
		}
		if least := x.least(); least < n {
			t.Fatalf("policy %d size %d workers %d: nobody got %d of %d", p, size, workers, least, n)
		}
		for w := range workers {
			getsNone(t, d, w)
		}
	}
}

// P16.3: a dealer that is set to what another one's Now told goes on as that one does
func TestGoesOnAlike(t *testing.T) {
	r := rand.New(rand.NewSource(163))
	for range 1000 {
		p, size, workers, n := policies()[r.Intn(3)], 1+r.Intn(12), 1+r.Intn(8), r.Intn(201)
		a, b := made(t, p, size, workers, n), made(t, p, size, workers, n)
		for range r.Intn(30) {
			a.Next(r.Intn(workers))
			b.Next(r.Intn(workers))
		}
		next, turns := a.Now()
		sets(t, b, next, turns, true)
		for range 40 {
			w := r.Intn(workers)
			one, oneIs := a.Next(w)
			if other, otherIs := b.Next(w); one != other || oneIs != otherIs {
				t.Fatalf("policy %d: worker %d gets %v %v of one, %v %v of the other", p, w, one, oneIs, other, otherIs)
			}
		}
	}
}
