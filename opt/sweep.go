package opt

import (
	"slices"

	"outrider/api"
)

// Sweep: what isn't come to goes, and jumps to what stands next, and moves of a register to itself.
func Sweep(l []api.Ins) []api.Ins {
	return passed(l, sweep)
}

// sweep leaves one at least: the last one that is come to neither falls nor jumps further on.
func sweep(l []api.Ins) []api.Ins {
	stays := staying(l)
	places := newPlaces(stays)
	var kept []api.Ins
	for at, x := range l {
		if !stays[at] {
			continue
		}
		if hasTarget(x) {
			x.K = places[x.K]
		}
		kept = append(kept, x)
	}
	return kept
}

// newPlaces: where each one will stand, or, if it goes, the next one that stays: behind as many as stay ahead of it.
func newPlaces(stays []bool) []int64 {
	places := make([]int64, len(stays))
	ahead := int64(0)
	for at, stay := range stays {
		places[at] = ahead
		if stay {
			ahead++
		}
	}
	return places
}

// staying goes from the last place to the first, so that of a jump it is told already what stays between it and a later target.
func staying(l []api.Ins) []bool {
	stays := comeTo(l)
	for at := len(l) - 1; at >= 0; at-- {
		stays[at] = stays[at] && !onlyGoesOn(l[at], at, stays)
	}
	return stays
}

// onlyGoesOn: does it nothing but go on to the next one that stays?
func onlyGoesOn(x api.Ins, at int, stays []bool) bool {
	next := int64(at + 1)
	switch x.Kind {
	case api.InsMove:
		return x.A == x.B
	case api.InsZero, api.InsOther:
		return x.K == next
	case api.InsJump:
		return x.K >= next && !slices.Contains(stays[next:x.K], true)
	}
	return false
}

// comeTo: which places can be come to from the first one.
func comeTo(l []api.Ins) []bool {
	on := ways(l)
	first := make([]bool, len(l))
	first[0] = true
	return settled(first, func(was []bool) []bool {
		come := slices.Clone(was)
		for at := range l {
			if !come[at] {
				continue
			}
			for _, next := range on[at] {
				come[next] = true
			}
		}
		return come
	})
}
