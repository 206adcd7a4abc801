package mach

import (
	"outrider/api"
	"outrider/attempt"
)

func (m *Machine) tell(x api.Event) {
	m.events = append(m.events, x)
}

func (m *Machine) tellRead(t *task, r attempt.Read) {
	m.tell(api.Event{Kind: api.EvRead, Age: t.age, At: r.At, Value: r.Value, From: r.From})
}

func (m *Machine) tellWrite(t *task, at int, value int64) {
	m.tell(api.Event{Kind: api.EvWrite, Age: t.age, At: at, Value: value})
}

func (m *Machine) tellEmit(t *task, w api.Want) {
	m.tell(api.Event{Kind: api.EvEmit, Age: t.age, Value: w.Value})
}

func (m *Machine) tellInto(t *task, w api.Want) {
	m.tell(api.Event{Kind: api.EvInto, Age: t.age, At: w.At, Value: w.Value})
}
