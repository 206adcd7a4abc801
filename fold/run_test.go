package fold

import (
	"math"
	"slices"
	"strconv"
	"testing"

	"outrider/api"
)

// upto: what Upto answers without an error.
func upto(t *testing.T, j api.Job, many int) api.Result {
	t.Helper()
	h := hold(j)
	r, e := Upto(j, many)
	if e != api.OK {
		t.Fatal(many, e)
	}
	h.look(t)
	return r
}

func run(t *testing.T, j api.Job) api.Result {
	t.Helper()
	h := hold(j)
	r, e := Run(j)
	if e != api.OK {
		t.Fatal(e)
	}
	h.look(t)
	return r
}

// P18.3: the chapter's examples
func TestExamples(t *testing.T) {
	wantResult(t, run(t, sample(t)), api.Result{Mem: []int64{0, 1, 2, 0}, Outs: []int64{0, 0, 0}, Reds: []int64{13}, Count: 3})
	j := of(t, "words 4", "red sum 10", "fuel 50", "for 0 3 1", "task {", "fail i;", "}")
	wantResult(t, run(t, j), api.Result{Mem: make([]int64, 4), Reds: []int64{10}, Fault: api.Fault{Over: api.Failed}})
}

// P18.3: those of the document's examples that a job alone has
func TestExamplesOfTheWhole(t *testing.T) {
	for _, c := range []struct {
		lines []string
		want  api.Result
	}{
		{[]string{"words 4", "fuel 50", "for 0 4 1", "task {", "m[i] = i * i;", "}"}, api.Result{Mem: []int64{0, 1, 4, 9}, Count: 4}},
		{[]string{"words 1", "fuel 50", "for 0 8 1", "task {", "m[0] = m[0] + 1;", "}"}, api.Result{Mem: []int64{8}, Count: 8}},
		{[]string{"words 1", "fuel 50", "for 3 0 -1", "task {", "emit i;", "}"}, api.Result{Mem: []int64{0}, Outs: []int64{3, 2, 1}, Count: 3}},
		{[]string{"words 1", "red sum 100", "fuel 50", "for 0 5 1", "task {", "into 0 i;", "}"}, api.Result{Mem: []int64{0}, Reds: []int64{110}, Count: 5}},
		{[]string{"words 4", "fuel 50", "for 0 4 1", "task {", "if (i == 2) { fail 7; } m[i] = 1;", "}"}, api.Result{Mem: []int64{1, 1, 0, 0}, Count: 2, Fault: api.Fault{Age: 2, Over: api.Failed, Value: 7}}},
		{[]string{"words 2", "fuel 50", "pipe 2 2", "task {", "m[i] = i + 5;", "}", "task {", "emit m[i];", "}"}, api.Result{Mem: []int64{5, 6}, Outs: []int64{5, 6}, Count: 4}},
		{[]string{"words 1", "fuel 10", "for 0 1 1", "task {", "while (1) { }", "}"}, api.Result{Mem: []int64{0}, Fault: api.Fault{Over: api.Spent}}},
		{[]string{"words 7", "fuel 50", "for 0 6 1", "task {", "m[i + 1] = m[i] + 1;", "}"}, api.Result{Mem: []int64{0, 1, 2, 3, 4, 5, 6}, Count: 6}},
	} {
		wantResult(t, run(t, of(t, c.lines...)), c.want)
	}
}

// P18.3: behind none, some and all of the tasks
func TestUpto(t *testing.T) {
	j := sample(t)
	wantResult(t, upto(t, j, 0), begun(t, j))
	wantResult(t, upto(t, j, 1), api.Result{Mem: []int64{0, 0, 0, 0}, Outs: []int64{0}, Reds: []int64{10}, Count: 1})
	wantResult(t, upto(t, j, 2), api.Result{Mem: []int64{0, 1, 0, 0}, Outs: []int64{0, 0}, Reds: []int64{11}, Count: 2})
	wantResult(t, upto(t, j, 3), run(t, j))
}

// P18.3: a pipeline goes stage by stage, item by item
func TestPipeline(t *testing.T) {
	j := three(t)
	outs := []int64{0, 0, 0, 1, 0, 1, 2, 0, 2, 3, 1, 0, 4, 1, 1, 5, 1, 2}
	mems := [][]int64{{0, 0}, {1, 0}, {1, 0}, {1, 12}, {2, 12}, {2, 12}, {2, 22}}
	reds := []int64{3, 3, 3, 3, 3, 4, 4}
	for many, m := range mems {
		wantResult(t, upto(t, j, many), api.Result{Mem: m, Outs: outs[:3*many], Reds: reds[many : many+1], Count: many})
	}
	wantResult(t, run(t, j), upto(t, j, 6))
}

// P18.3: a job without a task
func TestNoTask(t *testing.T) {
	for _, line := range []string{"for 0 0 1", "for 5 1 1", "for 1 5 -1", "pipe 0 1"} {
		j := of(t, "words 2", "cell 1 3", "red min 4", "fuel 50", line, "task {", "fail 1;", "}")
		want := api.Result{Mem: []int64{0, 3}, Reds: []int64{4}}
		wantResult(t, run(t, j), want)
		wantResult(t, upto(t, j, 0), want)
		refused(t, j, 1, api.ErrAge)
		refused(t, j, -1, api.ErrAge)
	}
}

// refused: the error that Upto answers, with nothing beside it.
func refused(t *testing.T, j api.Job, many int, want api.Errno) {
	t.Helper()
	h := hold(j)
	r, e := Upto(j, many)
	if e != want {
		t.Errorf("%d: %d, not %d", many, e, want)
	}
	wantResult(t, r, api.Result{})
	h.look(t)
}

// P18.3: layer 17's errors are ahead of ErrAge; Run has them alone
func TestUptoErrors(t *testing.T) {
	for i, flaw := range flaws() {
		j := whole(three(t))
		flaw.make(&j)
		for _, many := range []int{0, 6, 7, -1, math.MaxInt} {
			refused(t, j, many, flaw.no)
		}
		r, e := Run(j)
		if e != flaw.no {
			t.Errorf("flaw %d: %d, not %d", i, e, flaw.no)
		}
		wantResult(t, r, api.Result{})
	}
	for _, many := range []int{-1, 7, 8, 200, 1 << 32, 1<<32 + 1, -1 << 32, math.MinInt, math.MaxInt} {
		refused(t, three(t), many, api.ErrAge)
	}
}

// P18.3: each two flaws of a job: the one that is named first
func TestWhichErrorIsFirst(t *testing.T) {
	all := flaws()[:20] // each of them leaves the others' parts as they are
	for i, one := range all {
		for k, later := range all[i+1:] {
			if later.no == one.no || later.no == api.ErrTasks || later.no == api.ErrStep || one.no == api.ErrStep {
				continue
			}
			j := whole(three(t))
			later.make(&j)
			one.make(&j)
			if _, e := Run(j); e != one.no {
				t.Errorf("flaws %d and %d: %d, not %d", i, i+1+k, e, one.no)
			}
			refused(t, j, -1, one.no)
			wrong(t, j, -1, nil, one.no)
		}
	}
}

// P18.3, P18.4: a fault of each kind, of the first, a middle and the last task: what was ahead of it stays, and nothing of its own but the Fault is seen
func TestFaults(t *testing.T) {
	for text, fault := range map[string]api.Fault{
		"fail m[0] - 9;": {Over: api.Failed, Value: -8},
		"fail 0;":        {Over: api.Failed},
		"emit 7 / 0;":    {Over: api.Divided},
		"m[6] = 3;":      {Over: api.Outside, Value: 6},
		"emit m[0 - 9];": {Over: api.Outside, Value: -9},
		"while (1) { }":  {Over: api.Spent},
	} {
		for bad := range 5 {
			j, want := faulty(t, bad, text), ahead(bad)
			want.Fault = api.Fault{Age: bad, Over: fault.Over, Value: fault.Value}
			wantResult(t, run(t, j), want)
			for many := range 6 {
				if many > bad { // behind the fault nothing follows
					wantResult(t, upto(t, j, many), want)
				} else {
					wantResult(t, upto(t, j, many), ahead(many))
				}
			}
			refused(t, j, 6, api.ErrAge) // also of a job that doesn't come so far
			refused(t, j, -1, api.ErrAge)
		}
	}
	for bad := range 5 {
		wantResult(t, run(t, faulty(t, bad, "stop; fail 1;")), ahead(5))
	}
	wantResult(t, run(t, faulty(t, 5, "fail 1;")), ahead(5))
}

// ahead: what can be seen behind so many tasks of the faulty job, none of which ended badly.
func ahead(many int) api.Result {
	r := api.Result{Mem: []int64{0, 0, 0, 0, 0, 50 + int64(many)}, Reds: []int64{100, 0}, Count: many}
	for i := range many {
		r.Mem[i] = int64(i + 1)
		r.Outs = append(r.Outs, int64(i), int64(50+i))
		r.Reds[0] += int64(i)
		r.Reds[1] = int64(i * i)
	}
	return r
}

// P18.3: all that can be seen of a fault is the first one's
func TestTwoFaults(t *testing.T) {
	j := of(t, "words 1", "fuel 50", "for 0 9 1", "task {", "m[0] = n; if (n > 3) { fail n; }", "}")
	want := api.Result{Mem: []int64{3}, Count: 4, Fault: api.Fault{Age: 4, Over: api.Failed, Value: 4}}
	for many := 5; many <= 9; many++ {
		wantResult(t, upto(t, j, many), want)
	}
}

// P18.3: the Fault's age is not its index
func TestFaultOfAStage(t *testing.T) {
	j := of(t, "words 1", "fuel 50", "pipe 3 2", "task {", "emit i;", "}", "task {", "if (i == 1) { fail 0 - 2; }", "}")
	wantResult(t, run(t, j), api.Result{Mem: []int64{0}, Outs: []int64{0, 1}, Count: 3, Fault: api.Fault{Age: 3, Over: api.Failed, Value: -2}})
	j = of(t, "words 1", "fuel 50", "for 9 0 -2", "task {", "emit i; emit 6 / (i - 5);", "}")
	wantResult(t, run(t, j), api.Result{Mem: []int64{0}, Outs: []int64{9, 1, 7, 3}, Count: 2, Fault: api.Fault{Age: 2, Over: api.Divided}})
}

// P18.3: each task has the whole fuel; one step too few ends the job
func TestFuel(t *testing.T) {
	lines := []string{"words 1", "fuel 0", "for 0 5 1", "code {", "store r0 r2 0", "again:", "zero r1 last", "const r3 1", "sub r1 r1 r3", "jump again", "last:", "halt", "}"}
	for fuel := 1; fuel <= 22; fuel++ { // the task of age n takes 3 + 4n steps
		lines[1] = "fuel " + strconv.Itoa(fuel)
		r, j := api.Result{Mem: []int64{0}}, of(t, lines...)
		for n := 0; n < 5 && r.Fault.Over == api.Going; n++ {
			if 3+4*n > fuel {
				r.Fault = api.Fault{Age: n, Over: api.Spent}
			} else {
				r.Mem[0], r.Count = int64(n), n+1
			}
		}
		wantResult(t, run(t, j), r)
	}
}

// P18.3: each kind of reduction with an Init of its own, into which each task puts none, one or several
func TestReductions(t *testing.T) {
	for _, op := range ops() {
		for _, init := range []int64{op.zero, 3, -17} {
			j := of(t, "words 1", "red "+op.word+" "+strconv.FormatInt(init, 10), "red sum 1", "red "+op.word+" 5", "fuel 50", "for 0 5 1", "task {",
				"var x = i; while (x > 1) { into 0 x * 37 - 60; x = x - 1; } into 1 i;", "}")
			want, sum := init, int64(1)
			wantResult(t, upto(t, j, 2), api.Result{Mem: []int64{0}, Reds: []int64{init, 2, 5}, Count: 2})
			for i := range int64(5) {
				sum += i
				for x := i; x > 1; x-- {
					want = op.join(want, x*37-60)
				}
				wantResult(t, upto(t, j, int(i)+1), api.Result{Mem: []int64{0}, Reds: []int64{want, sum, 5}, Count: int(i) + 1})
			}
		}
	}
}

// P18.3: as many tasks as there may be, each of which puts out as much as its fuel lets it
func TestMost(t *testing.T) {
	j := of(t, "words 64", "fuel 4000", "for 0 200 1", "code {", "again:", "emit r0", "const r4 1999", "add r3 r3 r4", "const r4 1", "sub r3 r3 r4", "emit r3", "emit r1", "halt", "}")
	r := run(t, j)
	if r.Count != 200 || len(r.Outs) != 600 || r.Outs[599] != 199 || r.Outs[598] != 1998 || r.Outs[597] != 199 {
		t.Error(r)
	}
	j = of(t, "words 1", "fuel 4000", "pipe 100 2", "code {", "again:", "emit r0", "const r4 1", "add r3 r3 r4", "const r4 799", "sub r4 r4 r3", "other r4 again", "halt", "}", "code {", "halt", "}")
	if r := run(t, j); r.Fault != (api.Fault{Age: 0, Over: api.Spent}) || len(r.Outs) != 0 || r.Count != 0 {
		t.Error(r.Fault, len(r.Outs), r.Count)
	}
	for i, x := range j.Codes[0] {
		if x.K == 799 {
			j.Codes[0][i].K = 666
		}
	}
	if r := run(t, j); r.Count != 200 || len(r.Outs) != 66600 || r.Outs[66599] != 198 || r.Outs[665] != 0 || r.Outs[666] != 2 {
		t.Error(r.Fault, len(r.Outs), r.Count)
	}
}

// P18.3: what is answered is new, and nothing of the job is kept in it
func TestRunIsNew(t *testing.T) {
	j := faulty(t, 3, "fail 2;")
	a, b, c := run(t, j), run(t, j), upto(t, j, 2)
	want, fewer := seen(b), seen(c)
	for _, l := range [][]int64{a.Mem, a.Outs, a.Reds} {
		for i := range l {
			l[i] = -99
		}
	}
	j.Cells[0].Value, j.Reds[0].Init, j.Codes[0][0] = 1, 1, api.Ins{}
	wantResult(t, b, want)
	wantResult(t, c, fewer)
}

// P18.3: results that differ in one part alone can't be seen as the same
func TestSame(t *testing.T) {
	full := func() api.Result {
		return api.Result{Mem: []int64{1, 2}, Outs: []int64{3, 4}, Reds: []int64{5, 6}, Fault: api.Fault{Age: 7, Over: api.Failed, Value: 8}, Count: 7}
	}
	results := []api.Result{full(), {}}
	for _, turn := range []func(*api.Result){
		func(r *api.Result) { r.Mem[0] = 2 }, func(r *api.Result) { r.Mem[1] = 1 }, func(r *api.Result) { r.Mem = r.Mem[:1] }, func(r *api.Result) { r.Mem = append(r.Mem, 0) }, func(r *api.Result) { r.Mem = nil },
		func(r *api.Result) { r.Outs[0] = 4 }, func(r *api.Result) { r.Outs[1] = 3 }, func(r *api.Result) { r.Outs = r.Outs[:1] }, func(r *api.Result) { r.Outs = append(r.Outs, 0) }, func(r *api.Result) { r.Outs = nil },
		func(r *api.Result) { r.Reds[0] = 6 }, func(r *api.Result) { r.Reds[1] = 5 }, func(r *api.Result) { r.Reds = r.Reds[:1] }, func(r *api.Result) { r.Reds = append(r.Reds, 0) }, func(r *api.Result) { r.Reds = nil },
		func(r *api.Result) { r.Fault.Age = 6 }, func(r *api.Result) { r.Fault.Over = api.Outside }, func(r *api.Result) { r.Fault.Value = 9 }, func(r *api.Result) { r.Fault = api.Fault{} },
		func(r *api.Result) { r.Count = 6 }, func(r *api.Result) { r.Count += 1 << 32 }, func(r *api.Result) { r.Mem, r.Outs = r.Outs, r.Mem }, func(r *api.Result) { r.Reds, r.Outs = r.Outs, r.Reds },
	} {
		r := full()
		turn(&r)
		results = append(results, r)
	}
	for i, a := range results {
		for k, b := range results {
			was, other := seen(a), seen(b)
			if Same(a, b) != (i == k) || Same(seen(a), b) != (i == k) {
				t.Error(a, b)
			}
			wantResult(t, a, was)
			wantResult(t, b, other)
		}
	}
}

// P18.3: an empty list is nil, and what lies behind a list's length isn't looked at
func TestSameOfNothing(t *testing.T) {
	none := []api.Result{{}, {Mem: []int64{}}, {Outs: []int64{}}, {Reds: []int64{}}, {Mem: []int64{}, Outs: []int64{}, Reds: []int64{}}, {Mem: []int64{1, 2}[:0], Outs: []int64{9}[:0]}}
	for _, a := range none {
		for _, b := range none {
			if !Same(a, b) {
				t.Error(a, b)
			}
		}
	}
	l := []int64{1, 2, 3}
	if !Same(api.Result{Outs: l[:2]}, api.Result{Outs: slices.Clone(l[:2])}) || !Same(api.Result{Mem: l[:2]}, api.Result{Mem: []int64{1, 2, 4}[:2]}) {
		t.Error("what lies behind is looked at")
	}
	if Same(api.Result{Mem: []int64{0}}, api.Result{}) || Same(api.Result{Outs: []int64{0}}, api.Result{Mem: []int64{0}}) {
		t.Error("a word 0 is a word")
	}
}
