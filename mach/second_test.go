package mach

import (
	"maps"
	"slices"

	"outrider/api"
	"outrider/plan"
	"outrider/red"
	"outrider/vm"
)

// second is a second way to run a job. It has no store, no graph and no dealer: what is there stands in the turns alone, and is looked up in all of them again and again.
type second struct {
	j      api.Job
	c      api.Config
	n      int
	r      api.Result
	undone [][]int // of each worker the ages that it has
	chunks [][]int // those that nobody got
	turns  map[int]*turn
	leans  map[[2]int]int // by reader and writer
	stats  api.Stats
	events []api.Event
	late   int // ends with a read that isn't the memory's
}

// turn is a task that is under way.
type turn struct {
	worker, age int
	behind      bool
	inc, tries  int
	v           *vm.VM
	done
}

// done is all that a turn has done since it began, or began anew.
type done struct {
	reads  map[int][2]int64 // what, and from whom
	writes map[int]int64
	outs   []int64
	intos  []api.Into
}

func newSecond(j api.Job, c api.Config, first api.Result) *second {
	s := &second{j: j, c: c, r: first, undone: make([][]int, c.Workers), turns: map[int]*turn{}, leans: map[[2]int]int{}}
	s.n, _ = plan.Count(j.Shape)
	for from := 0; from < s.n; {
		size := c.Chunk
		for c.Policy == api.Guided && size*2*c.Workers < s.n-from {
			size++
		}
		var l []int
		for ; from < s.n && len(l) < size; from++ {
			l = append(l, from)
		}
		s.chunks = append(s.chunks, l)
	}
	return s
}

// ask: the next chunk for a worker; those of other ones stay (nil) where they are.
func (s *second) ask(w int) []int {
	for i, l := range s.chunks {
		if l != nil && (s.c.Policy != api.Static || i%s.c.Workers == w) {
			s.chunks[i] = nil
			return l
		}
	}
	return nil
}

func (s *second) over() bool {
	return s.r.Count == s.n || s.r.Fault.Over != 0
}

func (s *second) tell(kind api.EventKind, age, at int, value int64, from int) {
	s.events = append(s.events, api.Event{Kind: kind, Age: age, At: at, Value: value, From: from})
}

// ages: of those under way that are above one, rising.
func (s *second) ages(above int) []int {
	var l []int
	for age := above + 1; age < s.n; age++ {
		if s.turns[age] != nil {
			l = append(l, age)
		}
	}
	return l
}

func (s *second) do(e api.Entry) {
	if s.over() || e.Worker < 0 || e.Worker >= s.c.Workers {
		return
	}
	for _, t := range s.turns {
		if t.worker == e.Worker {
			switch over, _ := t.v.End(); {
			case e.Abort:
				s.fall(t.age)
			case over == 0:
				s.instruction(t)
			default:
				s.end(t)
			}
			return
		}
	}
	if !e.Abort {
		s.begin(e.Worker)
	}
}

func (s *second) begin(w int) {
	if len(s.undone[w]) == 0 {
		s.undone[w] = s.ask(w)
	}
	if len(s.undone[w]) == 0 || s.undone[w][0]-s.r.Count >= s.c.Window {
		return
	}
	t := &turn{worker: w, age: s.undone[w][0], behind: s.c.Force}
	index, stage, _ := plan.At(s.j.Shape, t.age)
	t.v, _ = vm.New(s.j.Codes[stage], len(s.j.Reds), s.j.Words, s.j.Fuel, int64(t.age), index, stage)
	t.clear()
	s.turns[t.age] = t
	s.events = append(s.events, api.Event{Kind: api.EvBegin, Worker: w, Age: t.age})
}

func (t *turn) clear() {
	t.done = done{reads: map[int][2]int64{}, writes: map[int]int64{}}
	t.v.Reset()
}

// free: how many versions there is room for.
func (s *second) free() int {
	many := s.c.Arena
	for _, t := range s.turns {
		if !t.behind {
			many -= len(t.writes)
		}
	}
	return many
}

// leanOn: false, if there is no room.
func (s *second) leanOn(reader, writer int) bool {
	if s.leans[[2]int{reader, writer}] == 0 && len(s.leans) == s.c.Edges {
		return false
	}
	s.leans[[2]int{reader, writer}] = 1
	return true
}

func (s *second) instruction(t *turn) {
	if t.behind && t.age != s.r.Count {
		return
	}
	w := t.v.Want()
	got, how := int64(0), "goes"
	switch w.Kind {
	case api.WantLoad:
		got, how = s.load(t, w.At)
	case api.WantStore:
		how = s.store(t, w.At, w.Value)
	case api.WantEmit:
		if !t.behind && len(t.outs) == s.c.Outs {
			how = "full"
		} else {
			t.outs = append(t.outs, w.Value)
			s.tell(api.EvEmit, t.age, 0, w.Value, 0)
		}
	case api.WantInto:
		t.intos = append(t.intos, api.Into{Cell: w.At, Value: w.Value})
		s.tell(api.EvInto, t.age, w.At, w.Value, 0)
	}
	switch {
	case how == "goes":
		t.v.Step(got)
		s.stats.Steps++
	case how == "full" && t.age == s.r.Count:
		s.fall(t.age)
		s.back(t)
	default:
		s.stats.Stalls++
	}
}

func (s *second) load(t *turn, at int) (int64, string) {
	if value, is := t.writes[at]; is {
		return value, "goes"
	}
	if r, is := t.reads[at]; is {
		return r[0], "goes"
	}
	if !t.behind && len(t.reads) == s.c.Reads {
		return 0, "full"
	}
	value, from := s.r.Mem[at], -1
	for age, o := range s.turns {
		if v, is := o.writes[at]; is && !o.behind && age < t.age && age > from {
			value, from = v, age
		}
	}
	if from >= 0 && !s.leanOn(t.age, from) {
		return 0, "waits"
	}
	if from >= 0 {
		s.stats.Forwards++
	}
	if !t.behind {
		t.reads[at] = [2]int64{value, int64(from)}
	}
	s.tell(api.EvRead, t.age, at, value, from)
	return value, "goes"
}

func (s *second) store(t *turn, at int, value int64) string {
	_, was := t.writes[at]
	if !t.behind {
		if !was && len(t.writes) == s.c.Writes {
			return "full"
		}
		for !was && s.free() == 0 {
			if t.age != s.r.Count {
				return "waits"
			}
			last := t.age
			for _, age := range s.ages(t.age) {
				if len(s.turns[age].writes) > 0 {
					last = age
				}
			}
			if last == t.age {
				return "full"
			}
			s.stats.Evicts++
			s.fall(last)
		}
		var differ []int
		for _, age := range s.ages(t.age) {
			r, is := s.turns[age].reads[at]
			switch {
			case !is || r[1] > int64(t.age):
			case r[0] != value:
				differ = append(differ, age)
			case r[1] == int64(t.age):
			case !s.leanOn(age, t.age):
				differ = append(differ, age)
			default:
				s.turns[age].reads[at] = [2]int64{value, int64(t.age)}
			}
		}
		t.writes[at] = value
		s.fallThese(differ, at)
	}
	t.writes[at] = value
	s.tell(api.EvWrite, t.age, at, value, 0)
	return "goes"
}

func (s *second) fallThese(l []int, at int) {
	for _, age := range l {
		if _, is := s.turns[age].reads[at]; is {
			s.fall(age)
		}
	}
}

// with: who falls with an age, found by going on from reader to reader.
func (s *second) with(age int, falls map[int]int) {
	falls[age] = 1
	for e := range s.leans {
		if e[1] == age && falls[e[0]] == 0 {
			s.with(e[0], falls)
		}
	}
}

func (s *second) fall(age int) {
	falls := map[int]int{}
	s.with(age, falls)
	for _, a := range slices.Sorted(maps.Keys(falls)) {
		t := s.turns[a]
		s.cut(a)
		t.clear()
		t.inc++
		s.stats.Aborts++
		s.tell(api.EvAbort, a, 0, 0, 0)
		if a == s.r.Count {
			t.tries++
		}
		if t.tries > s.c.Retry {
			s.back(t)
		}
	}
}

// cut: the edges of an age go.
func (s *second) cut(age int) {
	maps.DeleteFunc(s.leans, func(e [2]int, _ int) bool { return e[0] == age || e[1] == age })
}

func (s *second) back(t *turn) {
	if !t.behind {
		t.behind = true
		s.stats.Falls++
	}
}

func (s *second) end(t *turn) {
	if t.age != s.r.Count {
		return
	}
	for at, r := range t.reads {
		if s.r.Mem[at] != r[0] {
			s.late++
			s.fall(t.age)
			return
		}
	}
	over, value := t.v.End()
	if over != api.Halted {
		s.r.Fault = api.Fault{Age: t.age, Over: over, Value: value}
		s.tell(api.EvFault, t.age, int(over), value, 0)
		clear(s.turns)
		clear(s.leans)
		return
	}
	for _, at := range slices.Sorted(maps.Keys(t.writes)) {
		value := t.writes[at]
		s.r.Mem[at] = value
		var differ []int
		for _, age := range s.ages(t.age) {
			if r, is := s.turns[age].reads[at]; is && r[1] <= int64(t.age) && r[0] != value && t.behind {
				differ = append(differ, age)
			}
		}
		s.fallThese(differ, at)
	}
	s.r.Outs = append(s.r.Outs, t.outs...)
	for _, x := range t.intos {
		s.r.Reds[x.Cell] = red.Join(s.j.Reds[x.Cell].Op, s.r.Reds[x.Cell], x.Value)
	}
	s.cut(t.age)
	delete(s.turns, t.age)
	s.tell(api.EvCommit, t.age, 0, 0, 0)
	s.stats.Commits++
	s.r.Count++
	s.undone[t.worker] = s.undone[t.worker][1:]
}

// hands: what each worker has.
func (s *second) hands() []api.Hand {
	l := make([]api.Hand, s.c.Workers)
	for w := range l {
		l[w].Age = -1
	}
	for _, t := range s.turns {
		over, _ := t.v.End()
		mode := api.Ahead
		if t.behind {
			mode = api.Behind
		}
		l[t.worker] = api.Hand{Age: t.age, Inc: t.inc, Tries: t.tries, Mode: mode, Over: over, Reads: len(t.reads), Writes: len(t.writes), Outs: len(t.outs)}
	}
	return l
}
