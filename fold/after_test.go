package fold

import (
	"math"
	"reflect"
	"slices"
	"strconv"
	"testing"

	"outrider/api"
)

// begun: what Begin answers without an error.
func begun(t *testing.T, j api.Job) api.Result {
	t.Helper()
	h := hold(j)
	r, e := Begin(j)
	if e != api.OK {
		t.Fatal(e)
	}
	h.look(t)
	return r
}

// after: what After answers; it leaves what it is handed.
func after(t *testing.T, j api.Job, r api.Result, age int, x api.Effect) api.Result {
	t.Helper()
	h, was, did := hold(j), seen(r), done(x)
	now := After(j, r, age, x)
	h.look(t)
	if !reflect.DeepEqual(seen(r), was) || !reflect.DeepEqual(done(x), did) {
		t.Fatal("what was handed in is changed")
	}
	return now
}

// P18.2: ahead of the first task there are the cells and the Inits, and nothing else
func TestBegin(t *testing.T) {
	wantResult(t, begun(t, sample(t)), api.Result{Mem: make([]int64, 4), Reds: []int64{10}})
	wantResult(t, begun(t, three(t)), api.Result{Mem: make([]int64, 2), Reds: []int64{3}})
	j := of(t, "words 5", "cell 4 -3", "cell 1 8", "red max -5", "red min 0", "red sum 7", "red prod 0", "fuel 1", "for 0 0 1", "code {", "halt", "}")
	wantResult(t, begun(t, j), api.Result{Mem: []int64{0, 8, 0, 0, -3}, Reds: []int64{-5, 0, 7, 0}})
	j = of(t, "words 64", "fuel 1", "pipe 0 1", "code {", "halt", "}")
	wantResult(t, begun(t, j), api.Result{Mem: make([]int64, 64)})
}

// P18.2: each of layer 17's errors, with nothing beside it
func TestBeginErrors(t *testing.T) {
	for i, flaw := range flaws() {
		j := whole(three(t))
		flaw.make(&j)
		h := hold(j)
		r, e := Begin(j)
		if e != flaw.no {
			t.Errorf("flaw %d: %d, not %d", i, e, flaw.no)
		}
		wantResult(t, r, api.Result{})
		h.look(t)
	}
}

// P18.2: what Begin answers is new each time
func TestBeginIsNew(t *testing.T) {
	j := of(t, "words 2", "cell 1 8", "red sum 7", "fuel 1", "for 0 1 1", "code {", "halt", "}")
	want := api.Result{Mem: []int64{0, 8}, Reds: []int64{7}}
	r, other := begun(t, j), begun(t, j)
	r.Mem[1], r.Reds[0] = 5, 5
	wantResult(t, other, want)
	wantResult(t, begun(t, j), want)
	j.Cells[0].Value, j.Reds[0].Init = 1, 1
	wantResult(t, other, want)
}

// P18.2: behind a task that halted: its memory, its Outs behind those ahead, what went in joined, one more
func TestAfter(t *testing.T) {
	j := of(t, "words 3", "red sum 5", "red max 5", "fuel 1", "for 0 9 1", "code {", "halt", "}")
	r := api.Result{Mem: []int64{1, 2, 3}, Outs: []int64{4, 4}, Reds: []int64{10, 20}, Count: 3}
	x := api.Effect{Mem: []int64{1, 0, 9}, Outs: []int64{7, -7, 7}, Over: api.Halted, Ticks: 5,
		Intos: []api.Into{{Cell: 1, Value: 19}, {Cell: 0, Value: -4}, {Cell: 0, Value: 3}, {Cell: 1, Value: -50}}}
	want := api.Result{Mem: []int64{1, 0, 9}, Outs: []int64{4, 4, 7, -7, 7}, Reds: []int64{9, 20}, Count: 4}
	wantResult(t, after(t, j, r, 3, x), want)
	wantResult(t, after(t, j, r, 0, x), want) // the age is told of a fault alone
	x.Intos[3].Value = 21
	want.Reds[1] = 21
	wantResult(t, after(t, j, r, 3, x), want)
}

// P18.2: a task that did nothing, on what has nothing
func TestAfterNothing(t *testing.T) {
	j := of(t, "words 1", "fuel 1", "for 0 9 1", "code {", "halt", "}")
	wantResult(t, after(t, j, api.Result{Mem: []int64{4}}, 0, api.Effect{Mem: []int64{4}, Over: api.Halted}), api.Result{Mem: []int64{4}, Count: 1})
	wantResult(t, after(t, j, api.Result{Mem: []int64{4}}, 0, api.Effect{Mem: []int64{4}, Over: api.Halted, Outs: []int64{0}}), api.Result{Mem: []int64{4}, Outs: []int64{0}, Count: 1})
	wantResult(t, after(t, j, api.Result{Mem: []int64{4}, Outs: []int64{0}}, 0, api.Effect{Mem: []int64{4}, Over: api.Halted, Outs: nil}), api.Result{Mem: []int64{4}, Outs: []int64{0}, Count: 1})
}

// P18.2: behind one that ended otherwise there is what was ahead, and its Fault
func TestAfterFault(t *testing.T) {
	j := of(t, "words 3", "red sum 5", "fuel 1", "for 0 9 1", "code {", "halt", "}")
	r := api.Result{Mem: []int64{1, 2, 3}, Outs: []int64{4, 4}, Reds: []int64{10}, Count: 3}
	for _, over := range []api.Over{api.Divided, api.Outside, api.Failed, api.Spent} {
		for _, age := range []int{3, 0, 8} {
			for _, value := range []int64{0, -1, math.MinInt64, math.MaxInt64} {
				x := api.Effect{Mem: []int64{9, 9, 9}, Outs: []int64{7}, Over: over, Value: value, Ticks: 5, Intos: []api.Into{{Cell: 0, Value: 2}}}
				want := seen(r)
				want.Fault = api.Fault{Age: age, Over: over, Value: value}
				wantResult(t, after(t, j, r, age, x), want)
			}
		}
	}
}

// ops: each kind of reduction, with its Zero.
func ops() []struct {
	word string
	zero int64
	join func(a, b int64) int64
} {
	return []struct {
		word string
		zero int64
		join func(a, b int64) int64
	}{
		{"sum", 0, func(a, b int64) int64 { return a + b }},
		{"prod", 1, func(a, b int64) int64 { return a * b }},
		{"min", math.MaxInt64, func(a, b int64) int64 { return min(a, b) }},
		{"max", math.MinInt64, func(a, b int64) int64 { return max(a, b) }},
		{"and", -1, func(a, b int64) int64 { return a & b }},
		{"or", 0, func(a, b int64) int64 { return a | b }},
		{"xor", 0, func(a, b int64) int64 { return a ^ b }},
	}
}

// P18.2: each kind of reduction, with none, one and several numbers that go in, onto what isn't its Zero, and onto it
func TestAfterReductions(t *testing.T) {
	for _, op := range ops() {
		for _, ahead := range []int64{op.zero, 6, -100, math.MaxInt64, math.MinInt64, 0} {
			for _, l := range [][]int64{nil, {5}, {-3}, {0}, {12, 10, 12}, {math.MinInt64, -1}, {3, math.MaxInt64, 9, 9}} {
				j := of(t, "words 1", "red "+op.word+" 77", "fuel 1", "for 0 9 1", "code {", "halt", "}")
				want, x := ahead, api.Effect{Mem: []int64{0}, Over: api.Halted}
				for _, n := range l {
					want = op.join(want, n)
					x.Intos = append(x.Intos, api.Into{Value: n})
				}
				r := after(t, j, api.Result{Mem: []int64{0}, Reds: []int64{ahead}}, 0, x)
				if !slices.Equal(r.Reds, []int64{want}) {
					t.Error(op.word, ahead, l, r.Reds, want)
				}
			}
		}
	}
}

// P18.2: several reductions side by side, also of one kind, into some of which nothing goes
func TestAfterSeveralReductions(t *testing.T) {
	j := of(t, "words 1", "red sum 0", "red sum 0", "red min 0", "red xor 0", "fuel 1", "for 0 9 1", "code {", "halt", "}")
	x := api.Effect{Mem: []int64{0}, Over: api.Halted, Intos: []api.Into{{Cell: 3, Value: 5}, {Cell: 1, Value: 2}, {Cell: 3, Value: 6}, {Cell: 1, Value: 40}}}
	r := after(t, j, api.Result{Mem: []int64{0}, Reds: []int64{9, 1, -4, 8}}, 0, x)
	wantResult(t, r, api.Result{Mem: []int64{0}, Reds: []int64{9, 43, -4, 11}, Count: 1})
}

// P18.2: what is answered shares nothing with what was handed in, however much room lies behind a list
func TestAfterIsNew(t *testing.T) {
	j := of(t, "words 2", "red sum 5", "fuel 1", "for 0 9 1", "code {", "halt", "}")
	for _, over := range []api.Over{api.Halted, api.Failed} {
		outs, reds := append(make([]int64, 0, 9), 1, 2), append(make([]int64, 0, 9), 3)
		r := api.Result{Mem: []int64{4, 5}, Outs: outs, Reds: reds}
		x := api.Effect{Mem: []int64{6, 7}, Outs: []int64{8}, Intos: []api.Into{{Value: 1}}, Over: over}
		a, b := after(t, j, r, 0, x), after(t, j, r, 0, x)
		want := seen(b)
		for _, l := range [][]int64{a.Mem, a.Outs, a.Reds, r.Mem, r.Outs, r.Reds, x.Mem, x.Outs} {
			for i := range l {
				l[i] = -99
			}
		}
		wantResult(t, b, want)
		if behind := outs[:9]; slices.Contains(behind[2:], 8) {
			t.Error("what lies behind the length is written on", behind)
		}
		more := append(b.Outs, 1) // room behind an answer's list is its own as well
		_ = append(b.Outs, 2)
		if len(more) != len(b.Outs)+1 || slices.Contains(r.Outs, 1) {
			t.Error(more)
		}
	}
}

// P1: what doesn't fit together has some answer
func TestAfterAnything(t *testing.T) {
	numbers := []int{math.MinInt, -1, 0, 1, 4, 1 << 32, math.MaxInt}
	lists := [][]int64{nil, {}, {1}, {1, 2, 3, 4, 5, 6}}
	jobs := []api.Job{{}, {Reds: []api.Red{{}}}, {Reds: make([]api.Red, 9)}, {Reds: []api.Red{{Op: 99}, {Op: -1}}}, sample(t), three(t)}
	for _, j := range jobs {
		for _, n := range numbers {
			for _, l := range lists {
				for over := api.Over(-1); over < 8; over++ {
					x := api.Effect{Mem: l, Outs: l, Intos: []api.Into{{Cell: n, Value: 1}, {Cell: -n}}, Over: over, Value: int64(n), Ticks: n}
					for _, into := range [][]api.Into{nil, x.Intos} {
						x.Intos = into
						after(t, j, api.Result{}, n, x)
						after(t, j, api.Result{Mem: l, Outs: l, Reds: l, Count: n, Fault: api.Fault{Age: n, Over: over, Value: 3}}, n, x)
					}
				}
			}
		}
	}
}

// P1: where reductions don't fit together, a task that halted leaves nothing to be seen
func TestAfterThatDoesntFit(t *testing.T) {
	l, x := []int64{1}, api.Effect{Mem: []int64{1, 2, 3, 4}, Outs: []int64{1}, Over: api.Halted}
	wantResult(t, after(t, api.Job{Reds: []api.Red{{}}}, api.Result{Mem: l, Reds: l}, 0, x), api.Result{})
	wantResult(t, after(t, sample(t), api.Result{Mem: l}, 0, x), api.Result{})
	x.Intos = []api.Into{{Cell: 0}, {Cell: 1}}
	wantResult(t, after(t, sample(t), api.Result{Mem: l, Reds: l}, 0, x), api.Result{})
}

// P18.2: a count doesn't go round, and goes on from wherever it is
func TestAfterCount(t *testing.T) {
	j := of(t, "words 1", "fuel 1", "for 0 9 1", "code {", "halt", "}")
	for _, count := range []int{0, 1, 8, 199, 1<<32 - 1, math.MaxInt - 1} {
		r := after(t, j, api.Result{Count: count}, 0, api.Effect{Over: api.Halted})
		if r.Count != count+1 {
			t.Error(count, r)
		}
	}
	if r := after(t, j, api.Result{Count: math.MaxInt}, 0, api.Effect{Over: api.Halted}); r.Count < 0 {
		t.Error(r)
	}
}

// P18.2: task by task what Begin, Task and After answer is what Upto does
func TestStepByStep(t *testing.T) {
	for _, j := range []api.Job{sample(t), three(t), faulty(t, 2, "fail 7;")} {
		r := begun(t, j)
		for age := 0; r.Fault.Over == api.Going; age++ {
			up, e := Upto(j, age)
			if e != api.OK || !Same(up, r) {
				t.Fatal(age, up, e, r)
			}
			x, e := Task(j, age, r.Mem)
			if e == api.ErrAge {
				break
			}
			r = after(t, j, r, age, x)
		}
		if all, e := Run(j); e != api.OK || !Same(all, r) {
			t.Error(all, e, r)
		}
	}
}

// faulty: a job of five tasks, one of which does, behind all else that it does, what ends it.
func faulty(t *testing.T, bad int, text string) api.Job {
	t.Helper()
	return of(t, "words 6", "cell 5 50", "red sum 100", "red max 0", "fuel 40", "for 0 5 1", "task {",
		"m[i] = i + 1; emit i; emit m[5]; m[5] = m[5] + 1; into 0 i; into 1 i * i;", "if (n == "+strconv.Itoa(bad)+") { "+text+" }", "}")
}
