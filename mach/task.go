package mach

import (
	"outrider/api"
	"outrider/attempt"
	"outrider/plan"
	"outrider/vm"
)

// task is one that is under way, in the hands of a worker.
type task struct {
	*vm.VM
	age        int
	mode       api.Mode
	inc, tries int
	log        *attempt.Log // of what it does ahead; else empty
	apart      *apart       // of what it does behind; else empty
}

// record is what a task has done since it began, or began anew.
type record interface {
	Writes() []api.Cell
	Outs() []int64
	Onto(reds []int64) ([]int64, bool)
	Lens() (int, int, int)
	Clear()
}

// begin: a worker without a task gets its next one, if there is one, and the window is wide enough for it.
func (m *Machine) begin(w int) {
	its := &m.workers[w]
	if its.ages.From >= its.ages.To {
		its.ages, _ = m.dealer.Next(w)
	}
	age := its.ages.From
	if age >= its.ages.To || age >= m.seen.Count+m.config.Window {
		return
	}
	its.task = m.newTask(age)
	m.tell(api.Event{Kind: api.EvBegin, Worker: w, Age: age})
}

// newTask is of an age that was dealt out: so the layers below refuse nothing.
func (m *Machine) newTask(age int) *task {
	j, c := m.job, m.config
	index, stage, _ := plan.At(j.Shape, age)
	t := &task{age: age, mode: api.Ahead, apart: newApart(j.Reds)}
	t.VM, _ = vm.New(j.Codes[stage], len(j.Reds), j.Words, j.Fuel, int64(age), index, stage)
	t.log, _ = attempt.New(c.Reads, c.Writes, c.Outs, j.Reds)
	if c.Force {
		t.mode = api.Behind
	}
	return t
}

// next: what the task does when its worker is picked.
func (t *task) next() func(*Machine, *task) {
	if over, _ := t.End(); over != api.Going {
		return (*Machine).end
	}
	if t.mode == api.Behind {
		return (*Machine).goBehind
	}
	return (*Machine).goAhead
}

// step: the machine does its instruction, for which nothing is missing any more.
func (m *Machine) step(t *task, got int64) {
	t.Step(got)
	m.stats.Steps++
}

// did: what it has done, in its mode.
func (t *task) did() record {
	if t.mode == api.Behind {
		return t.apart
	}
	return t.log
}

// hand: what a worker has that has this task, or none.
func (t *task) hand() api.Hand {
	if t == nil {
		return api.Hand{Age: -1}
	}
	h := api.Hand{Age: t.age, Inc: t.inc, Tries: t.tries, Mode: t.mode}
	h.Over, _ = t.End()
	h.Reads, h.Writes, h.Outs = t.did().Lens()
	return h
}
