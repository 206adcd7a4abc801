package mach

import (
	"outrider/api"
	"outrider/attempt"
)

// goBehind: an instruction of a task that runs behind, which waits for its turn.
func (m *Machine) goBehind(t *task) {
	if m.oldest(t) {
		m.step(t, m.meetBehind(t, t.Want()))
	}
}

// meetBehind does what an instruction wants: the word that it gets.
func (m *Machine) meetBehind(t *task, w api.Want) int64 {
	switch w.Kind {
	case api.WantLoad:
		return m.loadBehind(t, w.At)
	case api.WantStore:
		t.apart.words.Set(w.At, w.Value)
		m.tellWrite(t, w.At, w.Value)
	case api.WantEmit:
		t.apart.outs = append(t.apart.outs, w.Value)
		m.tellEmit(t, w)
	case api.WantInto:
		t.apart.heap.Add(w.At, w.Value)
		m.tellInto(t, w)
	}
	return 0
}

func (m *Machine) loadBehind(t *task, at int) int64 {
	if value, has := t.apart.words.Get(at); has {
		return value
	}
	r := attempt.Read{At: at, Value: m.seen.Mem[at], From: memory}
	m.tellRead(t, r)
	return r.Value
}
