package mach

import (
	"outrider/api"
	"outrider/attempt"
)

// bar is what stands in the way of an instruction.
type bar int

const (
	free bar = iota
	waits
	full
)

// memory is whose version a word is that nobody has written ahead of its time.
const memory = -1

// goAhead: an instruction of a task that runs ahead.
func (m *Machine) goAhead(t *task) {
	got, b := m.meetAhead(t, t.Want())
	switch {
	case b == free:
		m.step(t, got)
	case b == full && m.oldest(t):
		m.fall(t.age)
		m.fallBack(t)
	default:
		m.stats.Stalls++
	}
}

// meetAhead does what an instruction wants, as far as nothing stands in its way: the word that it gets.
func (m *Machine) meetAhead(t *task, w api.Want) (int64, bar) {
	switch w.Kind {
	case api.WantLoad:
		return m.loadAhead(t, w.At)
	case api.WantStore:
		return 0, m.storeAhead(t, w.At, w.Value)
	case api.WantEmit:
		if t.log.Emit(w.Value) != api.OK {
			return 0, full
		}
		m.tellEmit(t, w)
	case api.WantInto:
		t.log.Into(w.At, w.Value)
		m.tellInto(t, w)
	}
	return 0, free
}

// loadAhead: what the task knows of a word already stays so; else it is read of the world.
func (m *Machine) loadAhead(t *task, at int) (int64, bar) {
	if value, has := t.log.Written(at); has {
		return value, free
	}
	if r, has := t.log.Read(at); has {
		return r.Value, free
	}
	if reads, _, _ := t.log.Lens(); reads == m.config.Reads {
		return 0, full
	}
	r := attempt.Read{At: at, Value: m.seen.Mem[at], From: memory}
	if v, has := m.versions.Older(at, t.age); has {
		if m.edges.Add(t.age, v.Age) != api.OK {
			return 0, waits
		}
		m.stats.Forwards++
		r.Value, r.From = v.Value, v.Age
	}
	t.log.Note(r)
	m.tellRead(t, r)
	return r.Value, free
}

// storeAhead: a word is written, once there is room for its version; whoever has read what it was before has to know.
func (m *Machine) storeAhead(t *task, at int, value int64) bar {
	if !t.log.Room(at) {
		return full
	}
	if b := m.makeRoom(t, at); b != free {
		return b
	}
	t.log.Write(at, value)
	m.versions.Put(at, t.age, value)
	m.fallOf(at, m.differing(t, at, value))
	m.tellWrite(t, at, value)
	return free
}

// makeRoom: a version that is there needs none; for others the oldest task takes it from the youngest ones.
func (m *Machine) makeRoom(t *task, at int) bar {
	if _, has := m.versions.Get(at, t.age); has {
		return free
	}
	for m.versions.Free() == 0 {
		if !m.oldest(t) {
			return waits
		}
		ages := m.versions.Ages()
		youngest := ages[len(ages)-1]
		if youngest == t.age {
			return full
		}
		m.stats.Evicts++
		m.fall(youngest)
	}
	return free
}

// differing: the younger tasks whose read of a word this version makes wrong, or that can't come to lean on it. The others lean on it from now on.
func (m *Machine) differing(t *task, at int, value int64) []*task {
	var l []*task
	for _, r := range m.readers(t, at) {
		read, _ := r.log.Read(at)
		// an edge that is there needs no room: so it is of no matter whether the read is from this age already
		if read.Value == value && m.edges.Add(r.age, t.age) == api.OK {
			r.log.From(at, t.age)
			continue
		}
		l = append(l, r)
	}
	return l
}
