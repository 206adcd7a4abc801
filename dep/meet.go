package dep

import (
	"outrider/api"
	"outrider/num"
)

// mostMeet: how far from 0 the numbers may be that Meet looks at closely.
const mostMeet = 1 << 20

// Meet: are there p and q, not the same, from 0 on below n, with a + p*x = b + q*y? (Of numbers no further from 0 than 2^20, n at most MaxTasks; else true.)
func Meet(a, x, b, y int64, n int) bool {
	for _, z := range [...]int64{a, x, b, y} {
		if !near(z, mostMeet) {
			return true
		}
	}
	if n > api.MaxTasks {
		return true
	}
	for p := range int64(n) {
		if meets(a-b+p*x, y, p, int64(n)) {
			return true
		}
	}
	return false
}

// meets: is there a q other than p, from 0 on below n, with way = q*y?
func meets(way, y, p, n int64) bool {
	q, left, e := num.Floor(way, y)
	if e != api.OK { // y is 0: then every q does, or none
		return way == 0 && n > 1
	}
	return left == 0 && q != p && q >= 0 && q < n
}
