package opt

import (
	"slices"

	"outrider/api"
	"outrider/num"
)

// Leaders: the places at which a row of instructions begins that is done from its beginning on alone: the first one, each target, and what stands behind a jump, a halt, a fail.
func Leaders(l []api.Ins) []bool {
	if !mayBe(l) {
		return nil
	}
	return leaders(l)
}

func leaders(l []api.Ins) []bool {
	leads := make([]bool, len(l))
	leads[0] = true
	for at, x := range l {
		if hasTarget(x) {
			leads[x.K] = true
		}
		if endsRow(x) && at+1 < len(l) {
			leads[at+1] = true
		}
	}
	return leads
}

// endsRow: is what stands behind it a leader?
func endsRow(x api.Ins) bool {
	return hasTarget(x) || x.Kind == api.InsHalt || x.Kind == api.InsFail
}

// Fold: numbers that are known ahead are put in, from each leader to the next.
func Fold(l []api.Ins) []api.Ins {
	return passed(l, fold)
}

func fold(l []api.Ins) []api.Ins {
	leads := leaders(l)
	folded := slices.Clone(l)
	var k known
	for at, x := range l {
		if leads[at] {
			k = known{}
		}
		folded[at] = k.putInto(x, at)
		k.note(folded[at])
	}
	return folded
}

// known: which registers have one number, whatever the input, and which number.
type known struct {
	is     [api.Regs]bool
	number [api.Regs]int64
}

// putInto: what becomes of the instruction at a place, with what is known ahead of it.
func (k *known) putInto(x api.Ins, at int) api.Ins {
	switch x.Kind {
	case api.InsMove:
		if k.is[x.B] {
			return constant(x.A, k.number[x.B])
		}
	case api.InsOne:
		if k.is[x.B] {
			n, _ := num.One(x.Op, k.number[x.B])
			return constant(x.A, n)
		}
	case api.InsTwo:
		return k.putIntoTwo(x)
	case api.InsZero, api.InsOther:
		if k.is[x.A] {
			return decided(x, at, k.number[x.A])
		}
	}
	return x
}

// putIntoTwo leaves what divides by 0, since it ends the task.
func (k *known) putIntoTwo(x api.Ins) api.Ins {
	switch {
	case k.is[x.B] && k.is[x.C]:
		if n, is := num.Two(x.Op, k.number[x.B], k.number[x.C]); is {
			return constant(x.A, n)
		}
	case k.is[x.C] && turnsNothing(x.Op, k.number[x.C]):
		return api.Ins{Kind: api.InsMove, A: x.A, B: x.B}
	}
	return x
}

// note: what is known behind an instruction.
func (k *known) note(x api.Ins) {
	switch x.Kind {
	case api.InsConst:
		k.is[x.A], k.number[x.A] = true, x.K
	case api.InsMove, api.InsOne, api.InsTwo, api.InsLoad:
		k.is[x.A] = false
	}
}

// turnsNothing: does the operation give its left number, whichever that is, if its right one is n?
func turnsNothing(op api.Op, n int64) bool {
	switch op {
	case api.OpAdd, api.OpSub, api.OpOr, api.OpXor:
		return n == 0
	case api.OpShl, api.OpShr:
		return n&63 == 0 // layer 1 moves by the lowest six bits alone
	case api.OpMul, api.OpDiv:
		return n == 1
	case api.OpAnd:
		return n == -1
	}
	return false
}

// decided: an InsZero or InsOther whose number is known goes on at one place alone.
func decided(x api.Ins, at int, n int64) api.Ins {
	if (n == 0) == (x.Kind == api.InsZero) {
		return api.Ins{Kind: api.InsJump, K: x.K}
	}
	return api.Ins{Kind: api.InsJump, K: int64(at + 1)}
}

func constant(a int, n int64) api.Ins {
	return api.Ins{Kind: api.InsConst, A: a, K: n}
}
