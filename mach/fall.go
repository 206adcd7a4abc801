package mach

import (
	"cmp"
	"slices"

	"outrider/api"
)

// under: the tasks that are under way, by rising ages.
func (m *Machine) under() []*task {
	var l []*task
	for _, w := range m.workers {
		if w.task != nil {
			l = append(l, w.task)
		}
	}
	slices.SortFunc(l, func(a, b *task) int { return cmp.Compare(a.age, b.age) })
	return l
}

// readers: the younger tasks that have read a word of the world, as it was at a task's age or further back; by rising ages.
func (m *Machine) readers(t *task, at int) []*task {
	var l []*task
	for _, r := range m.under() {
		read, has := r.log.Read(at)
		if r.age > t.age && has && read.From <= t.age {
			l = append(l, r)
		}
	}
	return l
}

// fallOf: of tasks that have read a word each falls, unless it fell with another one of them: then it has the read no more.
func (m *Machine) fallOf(at int, l []*task) {
	for _, r := range l {
		if _, has := r.log.Read(at); has {
			m.fall(r.age)
		}
	}
}

// fall: an age begins anew, and whoever falls with it.
func (m *Machine) fall(age int) {
	falls := m.edges.Fall(age)
	for _, t := range m.under() {
		if slices.Contains(falls, t.age) {
			m.anew(t)
		}
	}
}

// anew: a task begins anew. Whoever leans on it has to, too.
func (m *Machine) anew(t *task) {
	m.forget(t)
	t.did().Clear()
	t.Reset()
	t.inc++
	m.stats.Aborts++
	m.tell(api.Event{Kind: api.EvAbort, Age: t.age})
	if !m.oldest(t) {
		return
	}
	t.tries++
	if t.tries > m.config.Retry {
		m.fallBack(t)
	}
}

// forget: nobody can read any more what a task has written ahead of its time, nor leans it on anybody.
func (m *Machine) forget(t *task) {
	m.versions.DropAll(t.age)
	m.edges.Remove(t.age)
}

// fallBack: a task that has done nothing runs behind from now on.
func (m *Machine) fallBack(t *task) {
	if t.mode != api.Behind {
		t.mode = api.Behind
		m.stats.Falls++
	}
}
