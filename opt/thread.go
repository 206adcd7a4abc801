package opt

import (
	"slices"

	"outrider/api"
)

// Thread: who jumps to a jump goes to where that goes; who jumps to a halt, halts.
func Thread(l []api.Ins) []api.Ins {
	return passed(l, thread)
}

func thread(l []api.Ins) []api.Ins {
	threaded := slices.Clone(l)
	for at, x := range l {
		if !hasTarget(x) {
			continue
		}
		x.K = comesTo(l, x.K)
		if x.Kind == api.InsJump && l[x.K].Kind == api.InsHalt {
			x = api.Ins{Kind: api.InsHalt}
		}
		threaded[at] = x
	}
	return threaded
}

// comesTo: where one comes to from a place on, from jump to jump; the place itself, if one goes round: with more jumps than there are instructions some place was come to twice.
func comesTo(l []api.Ins, place int64) int64 {
	at := place
	for range l {
		if l[at].Kind != api.InsJump {
			return at
		}
		at = l[at].K
	}
	return place
}
