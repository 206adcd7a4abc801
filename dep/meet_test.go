package dep

import (
	"math"
	"math/rand"
	"testing"

	"outrider/api"
)

const two20 = 1 << 20

// wantMeet: both ways round, since p and q may be taken for one another.
func wantMeet(t *testing.T, a, x, b, y int64, n int, want bool) {
	t.Helper()
	if Meet(a, x, b, y, n) != want || Meet(b, y, a, x, n) != want {
		t.Errorf("%d %d, %d %d, %d: not %v", a, x, b, y, n, want)
	}
}

// P19.2: the chapter's examples, and plain ones
func TestMeet(t *testing.T) {
	wantMeet(t, 0, 2, 1, 2, 9, false)
	wantMeet(t, 0, 1, 3, -1, 4, true)
	wantMeet(t, 0, 1, 1, 1, 2, true)
	wantMeet(t, 0, 1, 0, 1, 200, false)
	wantMeet(t, 0, 1, 0, 2, 3, true)  // 2 and 1
	wantMeet(t, 0, 1, 0, 2, 2, false) // 0 and 0 alone
	wantMeet(t, 0, 6, 3, 4, 200, false)
	wantMeet(t, 0, 6, 2, 4, 2, false) // 1 and 1 alone
	wantMeet(t, 0, 6, 2, 4, 4, false)
	wantMeet(t, 0, 6, 2, 4, 5, true) // 3 and 4
	wantMeet(t, -10, 5, 20, -5, 4, false)
	wantMeet(t, -10, 5, 20, -5, 5, true) // 2 and 4; 3 and 3
}

// P19.2: x or y 0, and both
func TestMeetStandingStill(t *testing.T) {
	wantMeet(t, 5, 0, 5, 0, 2, true)
	wantMeet(t, 5, 0, 5, 0, 1, false)
	wantMeet(t, 5, 0, 5, 0, 0, false)
	wantMeet(t, 5, 0, 6, 0, 200, false)
	wantMeet(t, 5, 0, 5, 1, 2, true) // whichever p, and 0
	wantMeet(t, 5, 0, 5, 1, 1, false)
	wantMeet(t, 5, 0, 4, 1, 2, true) // 0 and 1
	wantMeet(t, 5, 0, 3, 1, 2, false)
	wantMeet(t, 5, 0, 3, 1, 3, true)
	wantMeet(t, 5, 0, 0, 2, 200, false)
	wantMeet(t, 5, 0, 15, -2, 5, false)
	wantMeet(t, 5, 0, 15, -2, 6, true)
	wantMeet(t, 5, 0, 6, 1, 200, false)
}

// P19.2: signs that are alike and unlike
func TestMeetSigns(t *testing.T) {
	for _, side := range []int64{1, -1} {
		wantMeet(t, 0, side*3, side*1, side*3, 200, false)
		wantMeet(t, 0, side*3, side*6, side*3, 2, false)
		wantMeet(t, 0, side*3, side*6, side*3, 3, true)
		wantMeet(t, 0, side*3, side*-6, side*3, 3, true)
		wantMeet(t, 0, side*3, side*-1, side*-3, 200, false)
		wantMeet(t, 0, side*3, side*3, side*-3, 2, true) // 0 and 1
		wantMeet(t, 0, side*3, side*6, side*-3, 2, false)
		wantMeet(t, 0, side*3, side*6, side*-3, 3, true)
		wantMeet(t, 0, side*3, side*-3, side*-3, 200, false)
	}
}

// P19.2: only the same p and q would do
func TestMeetAtTheSame(t *testing.T) {
	wantMeet(t, 0, 5, 8, 1, 3, false) // 2 and 2; the next are 3 and 7
	wantMeet(t, 0, 5, 8, 1, 7, false)
	wantMeet(t, 0, 5, 8, 1, 8, true)
	wantMeet(t, 7, -2, 7, -2, api.MaxTasks, false)
	wantMeet(t, 0, 1, 0, -1, api.MaxTasks, false)
	wantMeet(t, 0, 1, 2, -1, 2, false) // 1 and 1
	wantMeet(t, 0, 1, 2, -1, 3, true)
	wantMeet(t, 4, 9, 4, 0, api.MaxTasks, true) // 0 and 0, but also 0 and 1
	wantMeet(t, 4, 9, 4, 0, 1, false)
}

// P19.2: only the greatest p or q does, and n from below 0 on
func TestMeetGreatest(t *testing.T) {
	for _, n := range []int{2, 3, 7, 100, api.MaxTasks} {
		last := int64(n - 1)
		wantMeet(t, 0, 1, last, 1, n, true) // the last and 0
		wantMeet(t, 0, 1, last+1, 1, n, false)
		wantMeet(t, 0, 1, -last, 1, n, true)
		wantMeet(t, 0, 1, -last-1, 1, n, false)
		wantMeet(t, 0, 5, 5*last, 7, n, true)
		wantMeet(t, 0, 5, 5*last+5, 7, n, false)
		wantMeet(t, 0, 1, last, 0, n, true)
		wantMeet(t, 0, 1, last+1, 0, n, false)
		wantMeet(t, 0, 1, 2*last-1, -1, n, n > 1) // the last and the one ahead of it
		wantMeet(t, 0, 1, 2*last, -1, n, false)   // the last and itself
	}
	for _, n := range []int{math.MinInt, -201, -1, 0, 1} {
		wantMeet(t, 0, 0, 0, 0, n, false)
		wantMeet(t, 0, 1, 0, 1, n, false)
		wantMeet(t, 3, 1, 5, -1, n, false)
		wantMeet(t, two20, two20, -two20, -two20, n, false)
	}
	for _, n := range []int{api.MaxTasks + 1, api.MaxTasks + 2, 1 << 32, math.MaxInt} {
		wantMeet(t, 0, 0, 1, 0, n, true)
		wantMeet(t, 0, 2, 1, 2, n, true)
		wantMeet(t, 0, 1, 0, 1, n, true)
	}
	wantMeet(t, 0, 0, 1, 0, api.MaxTasks, false)
	wantMeet(t, 0, 2, 1, 2, api.MaxTasks, false)
	wantMeet(t, 0, 1, 0, 1, api.MaxTasks, false)
}

// P19.2: each number at 2^20 and one further, on both sides, with whatever n
func TestMeetFar(t *testing.T) {
	for place := range 4 {
		for _, n := range []int{math.MinInt, -1, 0, 1, 2, api.MaxTasks, api.MaxTasks + 1, math.MaxInt} {
			ask := func(far int64) bool {
				z := [4]int64{0, 2, 1, 2}
				z[place] = far
				return Meet(z[0], z[1], z[2], z[3], n)
			}
			for _, far := range []int64{two20 + 1, -two20 - 1, 1 << 21, -1 << 21, 1 << 32, -1 << 32, math.MaxInt64, math.MinInt64, math.MinInt64 + 1} {
				if !ask(far) {
					t.Error("not far", place, far, n)
				}
			}
			// all even and 1, or all odd and 0: these never meet by themselves
			near := []int64{two20, -two20}
			if place == 2 {
				near = []int64{two20 - 1, 1 - two20}
			}
			for _, far := range near {
				if ask(far) != (n > api.MaxTasks) {
					t.Error("far", place, far, n)
				}
			}
		}
	}
	wantMeet(t, 0, 0, two20, 0, api.MaxTasks, false)
	wantMeet(t, two20, 0, two20, 0, 2, true)
	wantMeet(t, two20, two20, -two20, two20, 2, false)
	wantMeet(t, two20, two20, -two20, two20, 3, true)
	wantMeet(t, two20, -two20, -two20, two20, 2, false) // 1 and 1
	wantMeet(t, two20, -two20, -two20, two20, 3, true)  // 2 and 0
}

// byHand: Meet's question, by trying all.
func byHand(a, x, b, y int64, n int) bool {
	for p := range int64(n) {
		for q := range int64(n) {
			if p != q && a+p*x == b+q*y {
				return true
			}
		}
	}
	return false
}

// P19.2: small numbers, all of them, and others at random
func TestMeetAll(t *testing.T) {
	for d := int64(-9); d <= 9; d++ {
		for x := int64(-4); x <= 4; x++ {
			for y := int64(-4); y <= 4; y++ {
				for n := range 6 {
					wantMeet(t, d, x, 2, y, n, byHand(d, x, 2, y, n))
				}
			}
		}
	}
	r := rand.New(rand.NewSource(19))
	var met, not int
	for range 4000 {
		size := []int64{5, 40, 1000, two20}[r.Intn(4)]
		z := func() int64 { return r.Int63n(2*size+1) - size }
		a, x, b, y, n := z(), z(), z(), z(), r.Intn(api.MaxTasks+1)
		if r.Intn(2) == 0 { // so that they meet at a p and a q
			p, q := r.Int63n(int64(n)+3), r.Int63n(int64(n)+3)
			a = min(max(b+q*y-p*x, -two20), two20)
		}
		want := byHand(a, x, b, y, n)
		wantMeet(t, a, x, b, y, n, want)
		if want {
			met++
		} else {
			not++
		}
	}
	if met < 400 || not < 400 {
		t.Error("too few of a kind", met, not)
	}
}
