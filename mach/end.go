package mach

import (
	"outrider/api"
)

// end: a task whose instructions have ended waits till it is the oldest; then it is told what comes of it.
func (m *Machine) end(t *task) {
	over, value := t.End()
	switch {
	case !m.oldest(t):
	case !t.log.Holds(m.seen.Mem): // of one that runs behind it is empty
		m.fall(t.age)
	case over != api.Halted:
		m.fault(api.Fault{Age: t.age, Over: over, Value: value})
	default:
		m.commit(t)
	}
}

// fault: the run is done; nobody has anything any more.
func (m *Machine) fault(f api.Fault) {
	m.seen.Fault = f
	m.tell(api.Event{Kind: api.EvFault, Age: f.Age, At: int(f.Over), Value: f.Value})
	for _, t := range m.under() {
		m.forget(t)
	}
	clear(m.workers)
}

// commit: what the oldest task has done counts from now on.
func (m *Machine) commit(t *task) {
	did := t.did()
	for _, c := range did.Writes() {
		m.seen.Mem[c.At] = c.Value
		if t.mode == api.Behind {
			m.fallOf(c.At, m.wrong(t, c))
		}
	}
	m.seen.Outs = append(m.seen.Outs, did.Outs()...)
	m.seen.Reds, _ = did.Onto(m.seen.Reds)
	m.forget(t)
	m.tell(api.Event{Kind: api.EvCommit, Age: t.age})
	m.stats.Commits++
	m.seen.Count++
	m.release(t)
}

// wrong: the younger tasks that have read something else of a word than what a task behind leaves, which they couldn't see.
func (m *Machine) wrong(t *task, c api.Cell) []*task {
	var l []*task
	for _, r := range m.readers(t, c.At) {
		if read, _ := r.log.Read(c.At); read.Value != c.Value {
			l = append(l, r)
		}
	}
	return l
}

// release: the worker that has a task has it no more, and its age is used up.
func (m *Machine) release(t *task) {
	for i := range m.workers {
		w := &m.workers[i]
		if w.task == t {
			w.task = nil
			w.ages.From++
		}
	}
}
