package mach

import (
	"math"
	"slices"
	"strings"
	"testing"

	"outrider/api"
	"outrider/fold"
	"outrider/job"
)

// P24.1: a job that may not be is told, whatever the config is
func TestNewOfAJob(t *testing.T) {
	for _, c := range []struct {
		change func(j *api.Job)
		want   api.Errno
	}{
		{func(j *api.Job) { *j = api.Job{} }, api.ErrWords},
		{func(j *api.Job) { j.Words = 65 }, api.ErrWords},
		{func(j *api.Job) { j.Words = math.MinInt }, api.ErrWords},
		{func(j *api.Job) { j.Cells = []api.Cell{{At: 4}} }, api.ErrAddr},
		{func(j *api.Job) { j.Cells = []api.Cell{{At: -1}} }, api.ErrAddr},
		{func(j *api.Job) { j.Cells = []api.Cell{{At: 1}, {At: 1}} }, api.ErrTwice},
		{func(j *api.Job) { j.Reds = make([]api.Red, 5) }, api.ErrReds},
		{func(j *api.Job) { j.Reds = []api.Red{{Op: 8}} }, api.ErrRed},
		{func(j *api.Job) { j.Fuel = 0 }, api.ErrFuel},
		{func(j *api.Job) { j.Fuel = 4001 }, api.ErrFuel},
		{func(j *api.Job) { j.Shape.Kind = 3 }, api.ErrShape},
		{func(j *api.Job) { j.Shape.Step = 0 }, api.ErrStep},
		{func(j *api.Job) { j.Shape.Hi = 201 }, api.ErrTasks},
		{func(j *api.Job) { j.Codes = nil }, api.ErrCodes},
		{func(j *api.Job) { j.Codes = append(j.Codes, j.Codes[0]) }, api.ErrCodes},
		{func(j *api.Job) { j.Codes[0] = nil }, api.ErrLen},
		{func(j *api.Job) { j.Codes[0][0].Kind = 77 }, api.ErrOp},
		{func(j *api.Job) { j.Codes[0][0].A = 16 }, api.ErrReg},
		{func(j *api.Job) { j.Fuel, j.Shape.Step = 0, 0 }, api.ErrFuel},
	} {
		j := looped(t, 4, "m[i] = i;")
		c.change(&j)
		for _, config := range []api.Config{roomy(), {}, {Workers: 9, Policy: -1, Chunk: math.MaxInt}} {
			was := job.Copy(j)
			if m, e := New(j, config); m != nil || e != c.want || !job.Same(was, j) {
				t.Errorf("%+v with %+v: %d, not %d", j, config, e, c.want)
			}
		}
	}
}

// P24.1: a config that may not be; each of its bounds, and one past it
func TestNewOfAConfig(t *testing.T) {
	for _, c := range []struct {
		part        func(c *api.Config) *int
		least, most int
		want        api.Errno
	}{
		{func(c *api.Config) *int { return &c.Workers }, 1, api.MaxWorkers, api.ErrWorkers},
		{func(c *api.Config) *int { return (*int)(&c.Policy) }, 1, 3, api.ErrPolicy},
		{func(c *api.Config) *int { return &c.Chunk }, 1, api.MaxTasks, api.ErrSize},
		{func(c *api.Config) *int { return &c.Window }, 1, api.MaxWindow, api.ErrConfig},
		{func(c *api.Config) *int { return &c.Reads }, 1, api.MaxLog, api.ErrConfig},
		{func(c *api.Config) *int { return &c.Writes }, 1, api.MaxLog, api.ErrConfig},
		{func(c *api.Config) *int { return &c.Outs }, 1, api.MaxLog, api.ErrConfig},
		{func(c *api.Config) *int { return &c.Arena }, 1, api.MaxArena, api.ErrConfig},
		{func(c *api.Config) *int { return &c.Edges }, 1, api.MaxEdges, api.ErrConfig},
		{func(c *api.Config) *int { return &c.Retry }, 0, api.MaxRetry, api.ErrConfig},
	} {
		j := looped(t, 9, "m[i & 3] = m[i * 3 & 3] + i; emit m[n & 1]; into 0 m[n & 3];")
		for _, n := range []int{c.least, c.most} {
			config := roomy()
			*c.part(&config) = n
			start(t, j, config).rest()
		}
		for _, n := range []int{c.least - 1, c.most + 1, math.MinInt, math.MaxInt, c.least + 1<<32} {
			config := roomy()
			*c.part(&config) = n
			if m, e := New(j, config); m != nil || e != c.want {
				t.Errorf("%+v: %d, not %d", config, e, c.want)
			}
		}
	}
	if m, e := New(looped(t, 1, ""), api.Config{}); m != nil || e != api.ErrWorkers {
		t.Error("no config:", e)
	}
}

// P24.1, P24.3: what is told ahead of the first step
func TestFirst(t *testing.T) {
	p := start(t, parsed(t, "words 3\ncell 2 9\nred prod 7\nfuel 5\nfor 0 2 1\ncode {\nhalt\n}"), roomy())
	want := &told{
		result: api.Result{Mem: []int64{0, 0, 9}, Reds: []int64{7}},
		hands:  slices.Repeat([]api.Hand{{Age: -1}}, 4),
		used:   [3]int{0, 32, 0},
	}
	if now := tells(p.Machine); !now.same(want) || len(p.Events()) != 0 {
		t.Errorf("%+v, not %+v", now, want)
	}
}

// P24.1: the job isn't kept: whatever becomes of it, the run is the same
func TestTheJobIsNotKept(t *testing.T) {
	j := parsed(t, "words 4\ncell 1 5\nred sum 3\nfuel 50\npipe 3 2\ntask {\nm[i] = m[1] + 1; into 0 i;\n}\ntask {\nemit m[i];\n}")
	want, _ := fold.Run(j)
	m, _ := New(j, roomy())
	m.Pick(0)
	m.Pick(1)
	j.Words, j.Fuel, j.Shape = 1, 1, api.Shape{}
	clear(j.Cells)
	clear(j.Reds)
	clear(j.Codes[0])
	clear(j.Codes[1])
	clear(j.Codes)
	for i := range 400 {
		m.Pick(i % 4)
	}
	if r := m.Result(); !m.Done() || !fold.Same(r, want) {
		t.Errorf("%+v, not %+v", r, want)
	}
}

// P24.2, P24.3: a job without tasks is done from the beginning
func TestNoTasks(t *testing.T) {
	for _, text := range []string{"for 3 3 1\ntask {\n}", "for 3 4 -1\ntask {\nfail 1;\n}", "pipe 0 2\ntask {\n}\ntask {\nm[9] = 1;\n}"} {
		j := parsed(t, "words 2\ncell 0 4\nred max -5\nfuel 1\n"+text)
		for _, policy := range []api.Policy{api.Static, api.Dynamic, api.Guided} {
			c := roomy()
			c.Policy, c.Force = policy, policy == api.Guided
			p := start(t, j, c)
			if !p.Done() {
				t.Error("it isn't done:", text)
			}
			p.ended()
			p.play("0 1 2 3 !0 0*9")
			p.stats(api.Stats{})
			p.used(0, 0)
			if r := p.Result(); !fold.Same(r, api.Result{Mem: []int64{4, 0}, Reds: []int64{-5}}) {
				t.Error(r)
			}
		}
	}
}

// P24.2: the chapter's examples
func TestExamples(t *testing.T) {
	plus := looped(t, 2, "m[0] = m[0] + 1;")
	c := roomy()
	c.Workers = 1
	p := start(t, plus, c)
	p.rest()
	p.stats(api.Stats{Steps: 14, Commits: 2})

	c.Workers = 2
	p = start(t, plus, c)
	p.play("0 1 1*3", "begin 0 0", "begin 1 1", "read 1 0 0 -1")
	p.play("0*6", "read 0 0 0 -1", "abort 1", "write 0 0 1")
	p.rest()

	c.Workers, c.Writes, c.Arena = 1, 64, 4
	p = start(t, parsed(t, "words 9\nfuel 90\nfor 0 1 1\ntask {\n"+strings.Repeat("m[n] = 5; n = n + 1;\n", 9)+"}"), c)
	p.rest()
	if s := p.Stats(); s.Falls != 1 || s.Aborts != 1 || s.Evicts != 0 || s.Stalls != 0 {
		t.Error(s)
	}
}

// P24.4: those of the document's examples that a run alone has, with whatever config
func TestExamplesOfTheWhole(t *testing.T) {
	for _, c := range []struct {
		text string
		want api.Result
	}{
		{"words 4\nfuel 50\nfor 0 4 1\ntask {\nm[i] = i * i;\n}", api.Result{Mem: []int64{0, 1, 4, 9}, Count: 4}},
		{"words 1\nfuel 50\nfor 0 8 1\ntask {\nm[0] = m[0] + 1;\n}", api.Result{Mem: []int64{8}, Count: 8}},
		{"words 1\nfuel 50\nfor 3 0 -1\ntask {\nemit i;\n}", api.Result{Mem: []int64{0}, Outs: []int64{3, 2, 1}, Count: 3}},
		{"words 1\nred sum 100\nfuel 50\nfor 0 5 1\ntask {\ninto 0 i;\n}", api.Result{Mem: []int64{0}, Reds: []int64{110}, Count: 5}},
		{"words 4\nfuel 50\nfor 0 4 1\ntask {\nif (i == 2) { fail 7; } m[i] = 1;\n}", api.Result{Mem: []int64{1, 1, 0, 0}, Count: 2, Fault: api.Fault{Age: 2, Over: api.Failed, Value: 7}}},
		{"words 2\nfuel 50\npipe 2 2\ntask {\nm[i] = i + 5;\n}\ntask {\nemit m[i];\n}", api.Result{Mem: []int64{5, 6}, Outs: []int64{5, 6}, Count: 4}},
		{"words 1\nfuel 10\nfor 0 1 1\ntask {\nwhile (1) { }\n}", api.Result{Mem: []int64{0}, Fault: api.Fault{Over: api.Spent}}},
		{"words 7\nfuel 50\nfor 0 6 1\ntask {\nm[i + 1] = m[i] + 1;\n}", api.Result{Mem: []int64{0, 1, 2, 3, 4, 5, 6}, Count: 6}},
	} {
		for workers := 1; workers <= api.MaxWorkers; workers++ {
			for _, tight := range []int{1, 2, 8} {
				config := roomy()
				config.Workers, config.Policy = workers, 1+api.Policy(workers%3)
				config.Reads, config.Writes, config.Outs, config.Arena, config.Edges, config.Window = tight, tight, tight, tight, tight, tight
				p := start(t, parsed(t, c.text), config)
				p.rest()
				if r := p.Result(); !fold.Same(r, c.want) {
					t.Errorf("%s: %+v, not %+v", c.text, r, c.want)
				}
			}
		}
	}
}

// P24.2: workers that there aren't; a worker without a task; one whose task has begun
func TestPickAndAbort(t *testing.T) {
	c := roomy()
	c.Workers = 2
	p := start(t, looped(t, 3, "emit i;"), c)
	for _, w := range []int{-1, 2, 3, 8, -2, math.MinInt, math.MaxInt, 1 << 32} {
		p.do(api.Entry{Worker: w})
		p.do(api.Entry{Worker: w, Abort: true})
	}
	p.play("!0 !1 !0")
	p.stats(api.Stats{})
	p.play("1", "begin 1 0")
	p.play("!0")
	p.hand(0, api.Hand{Age: -1})
	p.hand(1, api.Hand{Age: 0, Mode: api.Ahead})
	p.play("!1", "abort 0")
	p.hand(1, api.Hand{Age: 0, Inc: 1, Tries: 1, Mode: api.Ahead})
	p.play("1*2 !1 1*2", "emit 0 0", "abort 0", "emit 0 0")
	p.hand(1, api.Hand{Age: 0, Inc: 2, Tries: 2, Mode: api.Ahead, Over: api.Halted, Outs: 1})
	p.play("1 !1", "commit 0")
	p.hand(1, api.Hand{Age: -1})
	p.stats(api.Stats{Steps: 4, Commits: 1, Aborts: 2})
	p.rest()
	p.play("0 1 !0 !1")
}

// P24.2: Do is Abort of an entry with Abort, else Pick
func TestDo(t *testing.T) {
	j := looped(t, 5, "m[i & 1] = m[0] + i; emit m[1];")
	by, direct := start(t, j, roomy()), start(t, j, roomy())
	for _, e := range entries("0 1 2 0*3 1*4 !1 !3 2*5 !0 0*8 !7 9 !2 3*20 0*9 1*9 2*9 3*9 0*9 1*9") {
		by.do(e)
		direct.x.do(e)
		if e.Abort {
			direct.Abort(e.Worker)
		} else {
			direct.Pick(e.Worker)
		}
		direct.look(direct.upto[max(0, direct.Result().Count-1)].Count)
		if !tells(by.Machine).same(tells(direct.Machine)) {
			t.Fatal("it isn't the same behind", e)
		}
	}
	if s := by.Stats(); s.Commits == 0 || s.Aborts < 3 {
		t.Error(s)
	}
}

// P24.2: a task begins only below Count + Window; till then its age stays with the worker
func TestWindow(t *testing.T) {
	c := roomy()
	c.Workers, c.Window = 3, 2
	p := start(t, looped(t, 6, ""), c)
	p.play("0 1 2*3", "begin 0 0", "begin 1 1")
	p.hand(2, api.Hand{Age: -1})
	p.play("1 1*3 2")
	p.hand(1, api.Hand{Age: 1, Mode: api.Ahead, Over: api.Halted})
	p.play("0 0", "commit 0")
	p.play("0 0") // the age 3 is its own now, and just at the window
	p.play("2", "begin 2 2")
	p.play("1", "commit 1")
	p.play("1 0", "begin 0 3") // and the age 4 is the worker 1's
	p.play("2*2 1", "commit 2", "begin 1 4")
	p.rest()

	c.Window = 1
	p = start(t, looped(t, 3, ""), c)
	p.play("1 0 2 1*2 2 0", "begin 1 0", "commit 0", "begin 0 1")
	p.play("2 1 0*2 2", "commit 1", "begin 2 2")
	p.rest()
}

// P24.2: with each policy the ages are those of layer 16, and a worker whose ages are used up has none
func TestPolicies(t *testing.T) {
	c := roomy()
	c.Workers, c.Window, c.Chunk, c.Policy = 2, 32, 2, api.Static
	p := start(t, looped(t, 5, ""), c)
	p.play("1 1 1 0 0 0 0*2", "begin 1 2", "begin 0 0", "commit 0", "begin 0 1")
	p.play("0 0 0 1 1", "commit 1", "begin 0 4", "commit 2", "begin 1 3")
	p.play("1 1 1*4", "commit 3")
	p.hand(1, api.Hand{Age: -1})
	p.play("0", "commit 4")
	p.ended()

	c.Policy = api.Dynamic
	p = start(t, looped(t, 5, ""), c)
	p.play("1 0 1*2 1 1", "begin 1 0", "begin 0 2", "commit 0", "begin 1 1")
	p.play("1 1 0*3", "commit 1", "begin 1 4", "commit 2", "begin 0 3")
	p.play("0 0 0*3 1", "commit 3")
	p.play("1", "commit 4")
	p.ended()

	c.Policy, c.Chunk = api.Guided, 1
	p = start(t, looped(t, 10, ""), c)
	p.play("0 1 0*2 0 0*2 0", "begin 0 0", "begin 1 3", "commit 0", "begin 0 1", "commit 1", "begin 0 2")
	p.play("0*2 0 1*2 1", "commit 2", "begin 0 5", "commit 3", "begin 1 4")
	p.rest()
}

// P24.2: a worker that asked keeps its chunk, though the window is too narrow for it; nobody else gets it
func TestAgesAreKept(t *testing.T) {
	c := roomy()
	c.Workers, c.Window, c.Chunk = 3, 1, 3
	p := start(t, looped(t, 7, "emit i;"), c)
	p.play("2 1 0 2", "begin 2 0", "emit 0 0")
	p.play("0*5 1*5")
	p.play("2*3", "commit 0", "begin 2 1")
	p.play("2*4 2*2", "emit 1 1", "commit 1", "begin 2 2", "emit 2 2")
	p.play("2 2 2 0", "commit 2")
	p.play("1", "begin 1 3")
	p.rest()
}

// P24.2: n is the age, i the index, k the stage
func TestNumbers(t *testing.T) {
	text := "task {\nemit n * 100 + i * 10 + k;\n}\n"
	for _, c := range []struct {
		shape string
		want  []int64
	}{
		{"pipe 2 3\n" + strings.Repeat(text, 3), []int64{0, 101, 202, 310, 411, 512}},
		{"for 7 1 -2\n" + text, []int64{70, 150, 230}},
	} {
		for _, force := range []bool{false, true} {
			config := roomy()
			config.Force = force
			p := start(t, parsed(t, "words 1\nfuel 20\n"+c.shape), config)
			p.rest()
			if r := p.Result(); !slices.Equal(r.Outs, c.want) {
				t.Error(c.shape, r.Outs)
			}
		}
	}
}

// P24.2: whatever there is of memory: its first and its last word, and one past both
func TestEnds(t *testing.T) {
	for _, words := range []string{"1", "64"} {
		for _, force := range []bool{false, true} {
			c := roomy()
			c.Force = force
			start(t, parsed(t, "words "+words+"\nfuel 20\npipe 1 3\ntask {\nm["+words+" - 1] = 3;\n}\ntask {\nemit m["+words+" - 1]; m[0] = 2;\n}\ntask {\nm["+words+"] = 1;\n}"), c).rest()
			p := start(t, parsed(t, "words "+words+"\nfuel 20\nfor 0 2 1\ntask {\nemit m[n - 1];\n}"), c)
			p.rest()
			if f := p.Result().Fault; f != (api.Fault{Over: api.Outside, Value: -1}) {
				t.Error(f)
			}
		}
	}
}

// P24.3: what is told is new memory, each time
func TestNewMemory(t *testing.T) {
	p := start(t, looped(t, 6, "m[i & 3] = m[0] + i; emit i; into 0 i;"), roomy())
	for _, e := range entries("0*12 0 0*12 1*12 2*5 3*5 0*3 1*13 2*9 3*9 0*20 1*20 2*20 3*20 0*20 1*20") {
		p.do(e)
		a, b := p.Result(), p.Result()
		for _, shared := range []bool{
			!fresh(a.Mem, b.Mem), !fresh(a.Outs, b.Outs), !fresh(a.Reds, b.Reds),
			!fresh(a.Mem, a.Outs), !fresh(a.Mem, a.Reds), !fresh(a.Outs, a.Reds),
			!fresh(p.Events(), p.Events()), !fresh(p.Hands(), p.Hands()),
		} {
			if shared {
				t.Fatal("two answers share memory")
			}
		}
		events, hands := p.Events(), p.Hands()
		for _, l := range [][]int64{a.Mem[:cap(a.Mem)], a.Outs[:cap(a.Outs)], a.Reds[:cap(a.Reds)]} {
			for i := range l {
				l[i] = 77
			}
		}
		clear(events[:cap(events)])
		clear(hands[:cap(hands)])
		p.look(b.Count)
	}
	if !p.Done() {
		t.Error("it isn't done")
	}
}
