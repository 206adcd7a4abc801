package vm

import (
	"slices"

	"outrider/api"
)

// world does what a machine wants of it, and keeps what came of that.
type world struct {
	did api.Effect
}

// Run: a machine of its own on a memory of its own, to its end.
func Run(code []api.Ins, cells, fuel int, in api.Input) (api.Effect, api.Errno) {
	v, e := New(code, cells, len(in.Mem), fuel, in.N, in.I, in.K)
	if e != api.OK {
		return api.Effect{}, e
	}
	w := &world{did: api.Effect{Mem: slices.Clone(in.Mem)}}
	v.drive(w.meet)
	w.did.Over, w.did.Value = v.End()
	w.did.Ticks = v.now.Steps
	return w.did, api.OK
}

// drive comes to an end, since each step takes of the fuel.
func (v *VM) drive(meet func(api.Want) int64) {
	for v.Step(meet(v.Want())) {
	}
}

// meet: the word, of a load; 0, which no step looks at, of all else.
func (w *world) meet(x api.Want) int64 {
	switch x.Kind {
	case api.WantLoad:
		return w.did.Mem[x.At]
	case api.WantStore:
		w.did.Mem[x.At] = x.Value
	case api.WantInto:
		w.did.Intos = append(w.did.Intos, api.Into{Cell: x.At, Value: x.Value})
	case api.WantEmit:
		w.did.Outs = append(w.did.Outs, x.Value)
	}
	return 0
}
