package vm

import (
	"outrider/api"
	"outrider/num"
)

// Want: what the next instruction wants of the world.
func (v *VM) Want() api.Want {
	if v.ended() || v.spent() {
		return api.Want{}
	}
	x := v.code[v.now.At]
	switch x.Kind {
	case api.InsLoad:
		if at, inside := v.address(x); inside {
			return api.Want{Kind: api.WantLoad, At: int(at)}
		}
	case api.InsStore:
		if at, inside := v.address(x); inside {
			return api.Want{Kind: api.WantStore, At: int(at), Value: v.reg(x.A)}
		}
	case api.InsInto:
		return api.Want{Kind: api.WantInto, At: x.C, Value: v.reg(x.A)}
	case api.InsEmit:
		return api.Want{Kind: api.WantEmit, Value: v.reg(x.A)}
	}
	return api.Want{}
}

// Step: the next instruction is done; a load's value is got. False: it is over already.
func (v *VM) Step(got int64) bool {
	if v.ended() {
		return false
	}
	if v.spent() {
		v.end(api.Spent, 0)
		return true
	}
	v.now.Steps++
	v.do(v.code[v.now.At], got)
	return true
}

func (v *VM) ended() bool {
	return v.now.Over != api.Going
}

func (v *VM) spent() bool {
	return v.now.Steps >= v.fuel
}

// do comes to just one of end, give, on and jump, by which the state is whole again.
func (v *VM) do(x api.Ins, got int64) {
	switch x.Kind {
	case api.InsHalt:
		v.end(api.Halted, 0)
	case api.InsConst:
		v.give(x.A, x.K)
	case api.InsMove:
		v.give(x.A, v.reg(x.B))
	case api.InsOne:
		n, _ := num.One(x.Op, v.reg(x.B))
		v.give(x.A, n)
	case api.InsTwo:
		v.two(x)
	case api.InsLoad, api.InsStore:
		v.reach(x, got)
	case api.InsInto, api.InsEmit:
		v.on()
	case api.InsJump:
		v.jump(x, true)
	case api.InsZero:
		v.jump(x, v.reg(x.A) == 0)
	case api.InsOther:
		v.jump(x, v.reg(x.A) != 0)
	case api.InsFail:
		v.end(api.Failed, v.reg(x.A))
	}
}

// two: since the operation is one of two, layer 1 refuses nothing but to divide by 0.
func (v *VM) two(x api.Ins) {
	n, is := num.Two(x.Op, v.reg(x.B), v.reg(x.C))
	if !is {
		v.end(api.Divided, 0)
		return
	}
	v.give(x.A, n)
}

// reach does a load or a store. What is stored, the world has laid down already.
func (v *VM) reach(x api.Ins, got int64) {
	at, inside := v.address(x)
	switch {
	case !inside:
		v.end(api.Outside, at)
	case x.Kind == api.InsLoad:
		v.give(x.A, got)
	default:
		v.on()
	}
}

// address: of a load or a store, and whether it is inside.
func (v *VM) address(x api.Ins) (int64, bool) {
	at := v.reg(x.B) + x.K
	return at, at >= 0 && at < int64(v.words)
}

func (v *VM) reg(r int) int64 {
	return v.now.Regs[r]
}

func (v *VM) give(r int, value int64) {
	v.now.Regs[r] = value
	v.on()
}

func (v *VM) on() {
	v.now.At++
}

func (v *VM) jump(x api.Ins, goes bool) {
	if !goes {
		v.on()
		return
	}
	v.now.At = int(x.K)
}

func (v *VM) end(over api.Over, value int64) {
	v.now.Over, v.now.Value = over, value
}
