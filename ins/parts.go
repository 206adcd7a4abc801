package ins

import (
	"strings"

	"outrider/api"
)

// The parts that an instruction may have, a letter each.
const (
	opPart     = 'o'
	aPart      = 'a'
	bPart      = 'b'
	cPart      = 'c'
	intoPart   = 'r' // C, which is a reduction's number
	numberPart = 'k' // K
	targetPart = 'l' // K, which is a place
)

// partsOf: the parts of a kind, in the order of their bytes, and true; false, if there is no such kind.
func partsOf(kind api.InsKind) (string, bool) {
	switch kind {
	case api.InsHalt:
		return "", true
	case api.InsConst:
		return "ak", true
	case api.InsMove:
		return "ab", true
	case api.InsOne:
		return "oab", true
	case api.InsTwo:
		return "oabc", true
	case api.InsLoad, api.InsStore:
		return "abk", true
	case api.InsInto:
		return "ar", true
	case api.InsEmit, api.InsFail:
		return "a", true
	case api.InsJump:
		return "l", true
	case api.InsZero, api.InsOther:
		return "al", true
	}
	return "", false
}

// intOf: where one of the parts a, b, c and r stands.
func intOf(x *api.Ins, part rune) *int {
	switch part {
	case aPart:
		return &x.A
	case bPart:
		return &x.B
	}
	return &x.C
}

// only: the instruction without what its kind hasn't.
func only(x api.Ins, parts string) api.Ins {
	kept := api.Ins{Kind: x.Kind}
	for _, part := range parts {
		switch part {
		case opPart:
			kept.Op = x.Op
		case numberPart, targetPart:
			kept.K = x.K
		default:
			*intOf(&kept, part) = *intOf(&x, part)
		}
	}
	return kept
}

// opFits says yes of a kind that has no operation: one that stands there all the same isn't a wrong one but an unused part.
func opFits(x api.Ins) bool {
	switch x.Kind {
	case api.InsOne:
		return x.Op >= api.OpNeg && x.Op <= api.OpNot
	case api.InsTwo:
		return x.Op >= api.OpAdd && x.Op <= api.OpMax
	}
	return true
}

func registersFit(x api.Ins, parts string) bool {
	for _, part := range parts {
		switch part {
		case aPart, bPart, cPart:
			if !within(int64(*intOf(&x, part)), api.Regs) {
				return false
			}
		}
	}
	return true
}

func reductionFits(x api.Ins, parts string, cells int) bool {
	return !strings.ContainsRune(parts, intoPart) || within(int64(x.C), min(cells, api.MaxReds))
}

func targetFits(x api.Ins, parts string, long int) bool {
	return !hasTarget(parts) || within(x.K, long)
}

func hasTarget(parts string) bool {
	return strings.ContainsRune(parts, targetPart)
}

// within: is it from 0 below how many there are?
func within(n int64, many int) bool {
	return n >= 0 && n < int64(many)
}
