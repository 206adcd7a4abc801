package mach

import (
	"slices"

	"outrider/api"
)

// Done: have all tasks committed, or was an error told?
func (m *Machine) Done() bool {
	return m.seen.Count == m.many || m.seen.Fault.Over != api.Going
}

// Result: what can be seen of the job so far.
func (m *Machine) Result() api.Result {
	r := m.seen
	r.Mem, r.Outs, r.Reds = slices.Clone(r.Mem), slices.Clone(r.Outs), slices.Clone(r.Reds)
	return r
}

// Stats: the run's numbers so far.
func (m *Machine) Stats() api.Stats {
	return m.stats
}

// Events: all that happened so far.
func (m *Machine) Events() []api.Event {
	return slices.Clone(m.events)
}

// Hands: what each worker has.
func (m *Machine) Hands() []api.Hand {
	l := make([]api.Hand, len(m.workers))
	for i, w := range m.workers {
		l[i] = w.task.hand()
	}
	return l
}

// Used: how many versions there are, how many slots are free, how many edges there are.
func (m *Machine) Used() (int, int, int) {
	return m.versions.Live(), m.versions.Free(), m.edges.Len()
}
