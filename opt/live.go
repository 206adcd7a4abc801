package opt

import (
	"slices"

	"outrider/api"
)

// Live: of each place the registers (a bit each) that may be read behind it ahead of being set.
func Live(l []api.Ins) []uint32 {
	if !mayBe(l) {
		return nil
	}
	return live(l)
}

// live begins with no register anywhere, so that none is live but for an instruction that reads it. It goes from the last place to the first, since most of what is read is set further ahead.
func live(l []api.Ins) []uint32 {
	on := ways(l)
	return settled(make([]uint32, len(l)), func(was []uint32) []uint32 {
		behind := slices.Clone(was)
		for at := len(l) - 1; at >= 0; at-- {
			for _, next := range on[at] {
				behind[at] |= reads(l[next]) | behind[next]&^sets(l[next])
			}
		}
		return behind
	})
}

func bit(r int) uint32 {
	return 1 << r
}

func reads(x api.Ins) uint32 {
	switch x.Kind {
	case api.InsMove, api.InsOne, api.InsLoad:
		return bit(x.B)
	case api.InsTwo:
		return bit(x.B) | bit(x.C)
	case api.InsStore:
		return bit(x.A) | bit(x.B)
	case api.InsInto, api.InsEmit, api.InsZero, api.InsOther, api.InsFail:
		return bit(x.A)
	}
	return 0
}

func sets(x api.Ins) uint32 {
	switch x.Kind {
	case api.InsConst, api.InsMove, api.InsOne, api.InsTwo, api.InsLoad:
		return bit(x.A)
	}
	return 0
}

// Dead: what sets a register alone that nobody reads goes on to the next one, as a move of a register to itself, which Sweep takes away.
func Dead(l []api.Ins) []api.Ins {
	return passed(l, dead)
}

func dead(l []api.Ins) []api.Ins {
	behind := live(l)
	left := slices.Clone(l)
	for at, x := range l {
		if onlySets(x) && behind[at]&bit(x.A) == 0 {
			left[at] = api.Ins{Kind: api.InsMove}
		}
	}
	return left
}

// onlySets: does it set a register, and nothing else? What divides, or loads, may end the task.
func onlySets(x api.Ins) bool {
	switch x.Kind {
	case api.InsConst, api.InsMove, api.InsOne:
		return true
	case api.InsTwo:
		return x.Op != api.OpDiv && x.Op != api.OpRem
	}
	return false
}
