package mach

import (
	"math/rand"
	"slices"
	"testing"

	"outrider/api"
	"outrider/dep"
	"outrider/fold"
	"outrider/job"
	"outrider/plan"
	"outrider/vm"
)

// maker makes jobs, configs and entries at random: few words and small numbers, so that tasks meet, and find what they have read already.
type maker struct {
	*rand.Rand
}

func (r maker) shape() api.Shape {
	if r.Intn(3) == 0 {
		return api.Shape{Kind: api.ShapePipe, Items: 1 + r.Intn(4), Stages: 1 + r.Intn(4)}
	}
	s := api.Shape{Kind: api.ShapeFor, Lo: int64(r.Intn(5) - 2), Step: int64(1 + r.Intn(2))}
	s.Hi = s.Lo + int64(r.Intn(14)+1)*s.Step
	if r.Intn(3) == 0 {
		s.Step, s.Hi = -s.Step, 2*s.Lo-s.Hi
	}
	return s
}

// reach: a word, by a register that stays 0, or by one that may lead outside.
func (r maker) reach(kind api.InsKind, words int) api.Ins {
	x := api.Ins{Kind: kind, A: 3 + r.Intn(3), B: 15, K: int64(r.Intn(words))}
	if r.Intn(25) == 0 {
		x.B = r.Intn(6)
	}
	return x
}

func (r maker) ins(words, reds, at, long int) api.Ins {
	a, b, c := 3+r.Intn(3), r.Intn(6), r.Intn(6)
	switch pick := r.Intn(20); {
	case pick < 5:
		return r.reach(api.InsLoad, words)
	case pick < 10:
		return r.reach(api.InsStore, words)
	case pick < 12:
		return api.Ins{Kind: api.InsEmit, A: b}
	case pick < 13 && reds > 0:
		return api.Ins{Kind: api.InsInto, A: b, C: r.Intn(reds)}
	case pick < 15:
		return api.Ins{Kind: api.InsConst, A: a, K: int64(r.Intn(3))}
	case pick < 17:
		ops := []api.Op{api.OpAdd, api.OpSub, api.OpXor, api.OpAnd, api.OpLt, api.OpEq, api.OpMax, api.OpDiv}
		return api.Ins{Kind: api.InsTwo, Op: ops[r.Intn(8-r.Intn(8)/7)], A: a, B: b, C: c}
	case pick < 19:
		return api.Ins{Kind: api.InsZero + api.InsKind(r.Intn(2)), A: b, K: int64(at + 1 + r.Intn(long-at-1))}
	case r.Intn(5) == 0:
		return api.Ins{Kind: api.InsOther, A: a, K: int64(r.Intn(long))} // back, perhaps for ever
	}
	return api.Ins{Kind: api.InsMove, A: a, B: b}
}

func (r maker) code(words, reds int) []api.Ins {
	l := make([]api.Ins, 2+r.Intn(11))
	for at := range l[1:] {
		l[at] = r.ins(words, reds, at, len(l))
	}
	l[len(l)-1] = api.Ins{Kind: api.InsHalt}
	if r.Intn(40) == 0 {
		l[r.Intn(len(l))] = api.Ins{Kind: api.InsFail, A: r.Intn(6)}
		l[len(l)-1] = api.Ins{Kind: api.InsHalt}
	}
	return l
}

func (r maker) job(t *testing.T) api.Job {
	t.Helper()
	j := api.Job{Words: 1 + r.Intn(5), Fuel: 8 + r.Intn(20), Shape: r.shape()}
	for range r.Intn(3) {
		j.Reds = append(j.Reds, api.Red{Op: api.RedOp(1 + r.Intn(7)), Init: int64(r.Intn(9) - 4)})
	}
	if r.Intn(2) == 0 {
		j.Cells = []api.Cell{{At: r.Intn(j.Words), Value: int64(r.Intn(4))}}
	}
	for range plan.Stages(j.Shape) {
		j.Codes = append(j.Codes, r.code(j.Words, len(j.Reds)))
	}
	if e := job.Valid(j); e != api.OK {
		t.Fatal(e, j)
	}
	return j
}

func (r maker) config() api.Config {
	c := api.Config{
		Workers: 1 + r.Intn(api.MaxWorkers), Window: 1 + r.Intn(9), Policy: api.Policy(1 + r.Intn(3)), Chunk: 1 + r.Intn(3),
		Reads: 1 + r.Intn(5), Writes: 1 + r.Intn(5), Outs: 1 + r.Intn(4), Arena: 1 + r.Intn(9), Edges: 1 + r.Intn(7), Retry: r.Intn(4),
		Force: r.Intn(20) == 0,
	}
	if r.Intn(3) == 0 {
		c.Reads, c.Writes, c.Outs, c.Arena, c.Edges = 64, 64, 64, 512, 512
	}
	return c
}

// driver picks workers, some of them more often than others; now and then one is aborted, or none that there is picked.
type driver struct {
	maker
	workers, often int // how rare aborts are; 0: there are none
	slow           int // who is picked only when a round must end
}

func (r maker) driver(workers int) driver {
	return driver{maker: r, workers: workers, often: []int{0, 0, 40, 9}[r.Intn(4)], slow: r.Intn(workers + 2)}
}

func (d driver) next() api.Entry {
	if d.Intn(50) == 0 {
		return api.Entry{Worker: d.workers + d.Intn(3) - 4*d.Intn(2)*d.workers, Abort: d.Intn(2) == 0}
	}
	w := d.Intn(d.workers)
	if w == d.slow && d.Intn(12) > 0 {
		w = (w + 1) % d.workers
	}
	return api.Entry{Worker: w, Abort: d.often > 0 && d.Intn(d.often) == 0}
}

// rounds counts them, and aborts, as chapter 25 does.
type rounds struct {
	workers, ended, aborts int
	picked                 map[int]int
}

func (x *rounds) count(e api.Entry) {
	if e.Abort {
		x.aborts++
		return
	}
	if e.Worker >= 0 && e.Worker < x.workers {
		x.picked[e.Worker]++
	}
	if len(x.picked) == x.workers {
		x.ended++
		clear(x.picked)
	}
}

// enough: behind so many rounds the run is done (P24.5).
func (x *rounds) enough(j api.Job, c api.Config, aborts int) int {
	n, _ := plan.Count(j.Shape)
	return n*(c.Retry+3)*(j.Fuel+3) + aborts*(j.Fuel+3)
}

// tally: all that random runs have to come to often enough.
type tally struct {
	stats         api.Stats
	faults, halts int
}

func (x *tally) add(p *player) {
	s := p.Stats()
	for _, c := range []struct{ sum, n *int }{
		{&x.stats.Steps, &s.Steps}, {&x.stats.Commits, &s.Commits}, {&x.stats.Aborts, &s.Aborts}, {&x.stats.Stalls, &s.Stalls},
		{&x.stats.Evicts, &s.Evicts}, {&x.stats.Falls, &s.Falls}, {&x.stats.Forwards, &s.Forwards},
	} {
		*c.sum += *c.n
	}
	if p.Result().Fault.Over != api.Going {
		x.faults++
	} else {
		x.halts++
	}
}

// P24.2 to P24.6: runs at random, held behind each entry against a second way, against what the tasks do one behind the other, against the room that there is, and against how many rounds are enough
func TestRandom(t *testing.T) {
	r := maker{rand.New(rand.NewSource(24))}
	var all tally
	for range 2500 {
		j, c := r.job(t), r.config()
		p, d := start(t, j, c), r.driver(c.Workers)
		p.dense = 8 + r.Intn(40)
		x := &rounds{workers: c.Workers, picked: map[int]int{}}
		var script []api.Entry
		for !p.Done() {
			e := d.next()
			if x.aborts > 60 {
				e.Abort = false
			}
			script = append(script, e)
			x.count(e)
			p.do(e)
			if !p.Done() && x.ended >= x.enough(j, c, x.aborts) {
				t.Fatal("it isn't done behind", x.ended, "rounds:", j, c)
			}
		}
		p.ended()
		all.add(p)
		again(t, j, c, script, p)
		if p.x.late > 0 {
			t.Fatal("somebody has read what isn't the memory's:", said(p.Events()))
		}
	}
	s := all.stats
	for _, n := range []int{s.Commits / 10, s.Aborts / 10, s.Stalls / 10, s.Evicts, s.Falls, s.Forwards / 4, all.faults, all.halts} {
		if n < 300 {
			t.Errorf("too few of a kind: %+v", all)
		}
	}
}

// again, P2: the same entries by Pick and Abort, with nothing asked in between, leave the same.
func again(t *testing.T, j api.Job, c api.Config, script []api.Entry, p *player) {
	t.Helper()
	m, _ := New(j, c)
	for _, e := range script {
		if e.Abort {
			m.Abort(e.Worker)
		} else {
			m.Pick(e.Worker)
		}
	}
	if !tells(m).same(p.last) || !slices.Equal(m.Events(), p.Events()) {
		t.Fatal("it isn't the same again:", said(m.Events()))
	}
}

// P24.5: whoever aborts just ahead of the end, or as soon as somebody has read, delays it no further than the bound
func TestBoundWithAborts(t *testing.T) {
	for _, source := range []string{"m[0] = m[0] + 1; emit m[0]; m[1] = m[0]; m[2] = 4;", "while (n < 200) { n = n + 1; }", "m[i & 3] = m[i + 1 & 3] + 1;"} {
		for _, retry := range []int{0, 1, 9} {
			for workers := 1; workers <= 3; workers++ {
				c := roomy()
				c.Workers, c.Retry, c.Outs, c.Writes, c.Arena = workers, retry, 1, 2, 2
				j := looped(t, 6, source)
				p := start(t, j, c)
				p.dense = 50
				x := &rounds{workers: workers, picked: map[int]int{}}
				do := func(e api.Entry) {
					x.count(e)
					p.do(e)
				}
				for !p.Done() {
					for w := range workers {
						do(api.Entry{Worker: w})
						if h := p.Hands()[w]; x.aborts < 40 && (h.Over != api.Going || h.Reads > 1) {
							do(api.Entry{Worker: w, Abort: true})
						}
					}
					if !p.Done() && x.ended >= x.enough(j, c, x.aborts) {
						t.Fatal("it isn't done behind", x.ended, "rounds")
					}
				}
				p.ended()
			}
		}
	}
}

// P24.4, P24.5: all rows of so many picks and aborts of two workers, and then each in turn
func TestAllRows(t *testing.T) {
	for _, codes := range [][]string{
		{"load r3 r9 0; store r0 r9 0; halt", "load r3 r9 0; emit r3; halt", "store r9 r9 0; halt"},
		{"store r0 r9 0; load r3 r9 1; halt", "load r3 r9 0; store r3 r9 1; halt", "load r3 r9 1; halt"},
	} {
		for _, retry := range []int{0, 1} {
			c := roomy()
			c.Workers, c.Arena, c.Edges, c.Retry = 2, 1, 1, retry
			j := staged(t, codes...)
			for number := range 4 * 4 * 4 * 4 * 4 * 4 {
				p := start(t, j, c)
				p.dense = 99
				for row, left := 0, number; row < 6; row, left = row+1, left/4 {
					p.do(api.Entry{Worker: left & 1, Abort: left&2 != 0 && row > 1})
					p.do(api.Entry{Worker: left & 1})
				}
				p.rest()
			}
		}
	}
}

// alone is what a task does on the first memory.
type alone struct {
	reads, writes map[int]int // words; the reads are those ahead of writing
	outs, steps   int
	over          api.Over
}

func aloneOf(j api.Job, age int) *alone {
	first, _ := fold.Begin(j)
	index, stage, _ := plan.At(j.Shape, age)
	v, _ := vm.New(j.Codes[stage], len(j.Reds), j.Words, j.Fuel, int64(age), index, stage)
	x := &alone{reads: map[int]int{}, writes: map[int]int{}}
	for more := true; more; {
		w := v.Want()
		got := int64(0)
		switch w.Kind {
		case api.WantLoad:
			got = first.Mem[w.At]
			if x.writes[w.At] == 0 {
				x.reads[w.At]++
			}
		case api.WantStore:
			first.Mem[w.At] = w.Value
			x.writes[w.At]++
		case api.WantEmit:
			x.outs++
		}
		more = v.Step(got)
	}
	x.over, _ = v.End()
	x.steps = v.Now().Steps
	return x
}

// needs: the least of Reads, Writes and Outs that the tasks need, and the most steps of one; false, if they have something to do with one another, or don't all halt.
func needs(j api.Job) (reads, writes, outs, steps int, is bool) {
	n, _ := plan.Count(j.Shape)
	writer, reader := map[int]int{}, map[int]int{}
	for age := range n {
		x := aloneOf(j, age)
		if x.over != api.Halted {
			return 0, 0, 0, 0, false
		}
		reads, writes, outs, steps = max(reads, len(x.reads)), max(writes, len(x.writes)), max(outs, x.outs), max(steps, x.steps)
		for at := range x.writes {
			if writer[at] > 0 || reader[at] > 0 {
				return 0, 0, 0, 0, false
			}
			writer[at] = age + 1
		}
		for at := range x.reads {
			if writer[at] > 0 && writer[at] != age+1 {
				return 0, 0, 0, 0, false
			}
			if reader[at] == 0 && writer[at] == 0 {
				reader[at] = age + 1
			}
		}
	}
	return reads, writes, outs, steps, true
}

// apartJob: tasks that go each about their own words, beside some that all may read.
func (r maker) apartJob(t *testing.T) api.Job {
	t.Helper()
	wide := 1 + r.Intn(3)
	n := 1 + r.Intn(min(12, 60/wide))
	j := api.Job{Words: 64, Cells: []api.Cell{{At: 61, Value: 1}, {At: 62, Value: 2}}, Reds: []api.Red{{Op: api.RedMax}}, Fuel: 60}
	j.Shape = api.Shape{Kind: api.ShapeFor, Hi: int64(n), Step: 1}
	code := []api.Ins{{Kind: api.InsConst, A: 8, K: int64(wide)}, {Kind: api.InsTwo, Op: api.OpMul, A: 8, B: 1, C: 8}}
	for range 1 + r.Intn(9) {
		x := r.ins(wide, 1, 0, 2)
		switch x.Kind {
		case api.InsLoad, api.InsStore:
			x.B = 8
			if x.Kind == api.InsLoad && r.Intn(4) == 0 {
				x.B, x.K = 15, int64(60+r.Intn(4))
			}
		case api.InsZero, api.InsOther:
			x.K = int64(len(code) + 1 + r.Intn(2))
		case api.InsJump, api.InsFail:
			continue
		}
		if x.Op != api.OpDiv {
			code = append(code, x)
		}
	}
	j.Codes = [][]api.Ins{append(code, api.Ins{Kind: api.InsHalt}, api.Ins{Kind: api.InsHalt})}
	if e := job.Valid(j); e != api.OK {
		t.Fatal(e, j)
	}
	return j
}

// calm: without aborts nobody falls or waits, and the run is done in its time.
func calm(t *testing.T, j api.Job, c api.Config, d driver) {
	t.Helper()
	n, _ := plan.Count(j.Shape)
	most := min(c.Workers, c.Window)
	quick := (n + most - 1) / most * (j.Fuel + 2*most + 3)
	p := start(t, j, c)
	p.dense = 64
	d.often = 0
	x := &rounds{workers: c.Workers, picked: map[int]int{}}
	for !p.Done() {
		e := d.next()
		e.Abort = false
		x.count(e)
		p.do(e)
		if s := p.Stats(); s.Aborts != 0 || s.Stalls != 0 || s.Falls != 0 {
			t.Fatalf("%+v: %+v with %+v", s, j, c)
		}
		if c.Policy == api.Dynamic && c.Chunk == 1 && x.ended >= quick && !p.Done() {
			t.Fatal("it isn't done behind", x.ended, "rounds:", j, c)
		}
	}
	p.ended()
}

// P24.7: jobs at random whose tasks have nothing to do with one another, with just the room and the fuel that they need
func TestIndependent(t *testing.T) {
	r := maker{rand.New(rand.NewSource(247))}
	var apart, mixed int
	for n := range 3000 {
		j, is := r.apartJob(t), true
		if n%2 == 1 {
			j = r.job(t)
		}
		c := r.config()
		c.Reads, c.Writes, c.Outs, j.Fuel, is = needs(j)
		if !is {
			continue
		}
		apart++
		if n%2 == 1 {
			mixed++
		}
		c.Reads, c.Writes, c.Outs, c.Edges, c.Force = max(c.Reads, 1), max(c.Writes, 1), max(c.Outs, 1), 1, false
		c.Arena = c.Window * c.Writes
		if r.Intn(2) == 0 {
			c.Policy, c.Chunk = api.Dynamic, 1
		}
		calm(t, j, c, r.driver(c.Workers))
	}
	if apart < 1000 || mixed < 20 {
		t.Error("too few:", apart, mixed)
	}
}

// P24.7: those that layer 19 tells ahead are such, the document's example among them
func TestTold(t *testing.T) {
	r := maker{rand.New(rand.NewSource(19))}
	for _, source := range []string{"m[i] = m[i] + 1;", "m[2 * i] = m[2 * i + 1]; emit i;", "emit m[0]; into 0 m[3];"} {
		for range 40 {
			j := looped(t, 8, source)
			j.Words = 16
			c := r.config()
			c.Reads, c.Writes, c.Outs, c.Arena, c.Force = 2, 1, 1, c.Window, false
			if is, e := dep.Independent(j, c); !is || e != api.OK {
				t.Fatal(is, e)
			}
			calm(t, j, c, r.driver(c.Workers))
		}
	}
}
