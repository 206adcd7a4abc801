package fold

import (
	"math"
	"reflect"
	"slices"
	"strconv"
	"strings"
	"testing"

	"outrider/api"
	"outrider/job"
)

// of: the job of a text that may be.
func of(t *testing.T, lines ...string) api.Job {
	t.Helper()
	j, at, e := job.Parse(strings.Join(lines, "\n"))
	if e != api.OK {
		t.Fatal(lines, at, e)
	}
	return j
}

// sample: the chapter's first example.
func sample(t *testing.T) api.Job {
	t.Helper()
	return of(t, "words 4", "red sum 10", "fuel 50", "for 0 3 1", "task {", "m[i] = m[i] + n; emit m[0]; into 0 i;", "}")
}

// three: a pipeline of two items and three stages, whose index is never the age but of the first.
func three(t *testing.T) api.Job {
	t.Helper()
	tell := "emit n; emit i; emit k;"
	return of(t, "words 2", "red max 3", "fuel 40", "pipe 2 3",
		"task {", tell, "m[0] = m[0] + 1;", "}", "task {", tell, "into 0 n;", "}", "task {", tell, "m[1] = m[0] * 10 + k;", "}")
}

// plainly: a list without the difference between nil and empty.
func plainly[T any](l []T) []T { return append([]T{}, l...) }

func seen(r api.Result) api.Result {
	r.Mem, r.Outs, r.Reds = plainly(r.Mem), plainly(r.Outs), plainly(r.Reds)
	return r
}

func done(x api.Effect) api.Effect {
	x.Mem, x.Outs, x.Intos = plainly(x.Mem), plainly(x.Outs), plainly(x.Intos)
	return x
}

// whole: a job in new memory, made without the layers' own means.
func whole(j api.Job) api.Job {
	j.Cells, j.Reds, j.Codes = plainly(j.Cells), plainly(j.Reds), plainly(j.Codes)
	for i, code := range j.Codes {
		j.Codes[i] = plainly(code)
	}
	return j
}

// held: a job that is handed in, and what it was.
type held struct{ is, was api.Job }

func hold(j api.Job) *held { return &held{j, whole(j)} }

func (h *held) look(t *testing.T) {
	t.Helper()
	if !reflect.DeepEqual(h.was, whole(h.is)) {
		t.Fatal("the job that was handed in is changed")
	}
}

func wantResult(t *testing.T, r api.Result, want api.Result) {
	t.Helper()
	if !reflect.DeepEqual(seen(r), seen(want)) {
		t.Errorf("%v, not %v", r, want)
	}
}

func wantEffect(t *testing.T, x api.Effect, want api.Effect) {
	t.Helper()
	if !reflect.DeepEqual(done(x), done(want)) {
		t.Errorf("%v, not %v", x, want)
	}
}

// right: what Task answers without an error; it leaves what it is handed.
func right(t *testing.T, j api.Job, age int, m ...int64) api.Effect {
	t.Helper()
	h, was := hold(j), plainly(m)
	x, e := Task(j, age, m)
	if e != api.OK {
		t.Fatal(age, m, e)
	}
	h.look(t)
	if !slices.Equal(m, was) {
		t.Fatal("the memory that was handed in is changed")
	}
	return x
}

// wrong: the error that Task answers, with nothing beside it.
func wrong(t *testing.T, j api.Job, age int, m []int64, want api.Errno) {
	t.Helper()
	h := hold(j)
	x, e := Task(j, age, m)
	if e != want {
		t.Errorf("%d %v: %d, not %d", age, m, e, want)
	}
	wantEffect(t, x, api.Effect{})
	h.look(t)
}

// P18.1: what the task of an age does on the memory that it is handed
func TestTask(t *testing.T) {
	j := sample(t)
	wantEffect(t, right(t, j, 0, 5, 6, 7, 8),
		api.Effect{Mem: []int64{5, 6, 7, 8}, Outs: []int64{5}, Intos: []api.Into{{Cell: 0, Value: 0}}, Over: api.Halted, Ticks: 8})
	wantEffect(t, right(t, j, 2, 5, 6, 7, 8),
		api.Effect{Mem: []int64{5, 6, 9, 8}, Outs: []int64{5}, Intos: []api.Into{{Cell: 0, Value: 2}}, Over: api.Halted, Ticks: 8})
}

// P18.1: the memory of the job's own cells isn't what a task is run on
func TestTaskOnWhatIsHandedIn(t *testing.T) {
	j := of(t, "words 2", "cell 0 9", "fuel 9", "for 0 1 1", "task {", "emit m[0];", "}")
	if x := right(t, j, 0, 4, 0); !slices.Equal(x.Outs, []int64{4}) {
		t.Error(x)
	}
}

// P18.1: each of layer 17's errors ahead of ErrWords, and this one ahead of ErrAge
func TestTaskErrors(t *testing.T) {
	for i, flaw := range flaws() {
		j := whole(three(t))
		flaw.make(&j)
		for _, m := range [][]int64{make([]int64, 2), make([]int64, 1), nil} {
			for _, age := range []int{0, -1, 6} {
				wrong(t, j, age, m, flaw.no)
			}
		}
		if t.Failed() {
			t.Fatal("flaw", i)
		}
	}
	j := three(t)
	for _, many := range []int{0, 1, 3, 64, 65, 1 << 16} {
		for _, age := range []int{0, 5, -1, 6} {
			wrong(t, j, age, make([]int64, many), api.ErrWords)
		}
	}
	wrong(t, j, 0, nil, api.ErrWords)
	for _, age := range []int{-1, 6, 7, math.MinInt, math.MaxInt, 1 << 32, 1<<32 + 1, -1 << 32} {
		wrong(t, j, age, make([]int64, 2), api.ErrAge)
	}
}

// P18.1: the ages are those of the shape: below 0 and behind the last one there is none
func TestTaskAges(t *testing.T) {
	for _, shape := range []struct {
		line string
		many int
	}{{"for 0 0 1", 0}, {"for 5 -4 -3", 3}, {"for 9 10 7", 1}, {"for 0 200 1", 200}, {"pipe 0 1", 0}, {"pipe 200 1", 200}} {
		j := of(t, "words 1", "fuel 9", shape.line, "task {", "emit n;", "}")
		wrong(t, j, -1, make([]int64, 1), api.ErrAge)
		for age := range shape.many {
			if x := right(t, j, age, 0); !slices.Equal(x.Outs, []int64{int64(age)}) {
				t.Error(shape, age, x)
			}
		}
		wrong(t, j, shape.many, make([]int64, 1), api.ErrAge)
	}
}

// P18.1: n is the age, i the index, k the stage
func TestTaskNumbers(t *testing.T) {
	for age, want := range [][]int64{{0, 0, 0}, {1, 0, 1}, {2, 0, 2}, {3, 1, 0}, {4, 1, 1}, {5, 1, 2}} {
		if x := right(t, three(t), age, 0, 0); !slices.Equal(x.Outs, want) {
			t.Error(age, x, want)
		}
	}
	for line, want := range map[string][]int64{"for 10 3 -4": {0, 10, 0, 1, 6, 0}, "for -7 1 5": {0, -7, 0, 1, -2, 0}, "for 9223372036854775806 9223372036854775807 3": {0, math.MaxInt64 - 1, 0},
		"for -9223372036854775808 9223372036854775807 9223372036854775807": {0, math.MinInt64, 0, 1, -1, 0, 2, math.MaxInt64 - 1, 0}} {
		j := of(t, "words 1", "fuel 9", line, "task {", "emit n; emit i; emit k;", "}")
		for age := range len(want) / 3 {
			if x := right(t, j, age, 0); !slices.Equal(x.Outs, want[3*age:3*age+3]) {
				t.Error(line, age, x)
			}
		}
	}
}

// P18.1: of a task that ends badly all is told that it did till then
func TestTaskEnds(t *testing.T) {
	for text, want := range map[string]api.Effect{
		"stop;":             {Over: api.Halted, Ticks: 5},
		"fail 0 - 7;":       {Over: api.Failed, Value: -7, Ticks: 8},
		"emit 1 / m[1];":    {Over: api.Divided, Ticks: 8},
		"emit 1 % m[1];":    {Over: api.Divided, Ticks: 8},
		"m[2] = 1;":         {Over: api.Outside, Value: 2, Ticks: 7},
		"emit m[0 - 1];":    {Over: api.Outside, Value: -1, Ticks: 8},
		"while (1) { }":     {Over: api.Spent, Ticks: 30},
		"fail 1; emit 3;":   {Over: api.Failed, Value: 1, Ticks: 6},
		"emit 2; fail 1;":   {Over: api.Failed, Value: 1, Ticks: 8, Outs: []int64{2}},
		"into 1 6; fail 1;": {Over: api.Failed, Value: 1, Ticks: 8, Intos: []api.Into{{Cell: 1, Value: 6}}},
	} {
		j := of(t, "words 2", "red sum 0", "red and 0", "fuel 30", "for 4 5 1", "task {", "m[0] = i; emit n; into 0 i;", text, "}")
		want.Mem = []int64{4, 0}
		want.Outs = append([]int64{0}, want.Outs...)
		want.Intos = append([]api.Into{{Cell: 0, Value: 4}}, want.Intos...)
		wantEffect(t, right(t, j, 0, 3, 0), want)
	}
}

// P18.1: the fuel of the job is a task's own: one that just comes out, one that lacks a step
func TestTaskFuel(t *testing.T) {
	for _, fuel := range []int{3, 4, 5, api.MaxFuel} {
		j := of(t, "words 1", "fuel "+strconv.Itoa(fuel), "for 0 3 1", "code {", "emit r1", "emit r1", "emit r1", "halt", "}")
		for age := range 3 {
			x, want := right(t, j, age, 0), api.Effect{Mem: []int64{0}, Over: api.Halted, Ticks: 4}
			want.Outs = slices.Repeat([]int64{int64(age)}, 3)
			if fuel == 3 {
				want.Over, want.Ticks = api.Spent, 3
			}
			wantEffect(t, x, want)
		}
	}
}

// P18.1: what is answered is new memory, and nothing of it stays behind
func TestTaskIsNew(t *testing.T) {
	j, m := sample(t), []int64{1, 2, 3, 4}
	first := right(t, j, 1, m...)
	keep := done(first)
	for i := range first.Mem {
		first.Mem[i] = -9
	}
	first.Outs[0], first.Intos[0] = -9, api.Into{Cell: -9}
	if !slices.Equal(m, []int64{1, 2, 3, 4}) {
		t.Error("the memory is the one that was handed in")
	}
	wantEffect(t, right(t, j, 1, m...), keep)
	x, _ := Task(j, 1, m)
	m[0], j.Codes[0][0] = 70, api.Ins{}
	wantEffect(t, x, keep)
}

// flaw: a part of a job that may not be, and its error.
type flaw struct {
	no   api.Errno
	make func(*api.Job)
}

// flaws: of the pipeline of three stages, in the order of layer 17's chapter.
func flaws() []flaw {
	return []flaw{
		{api.ErrWords, func(j *api.Job) { j.Words = 0 }},
		{api.ErrWords, func(j *api.Job) { j.Words = 65 }},
		{api.ErrWords, func(j *api.Job) { j.Words = math.MinInt }},
		{api.ErrWords, func(j *api.Job) { j.Words = 1<<32 + 2 }},
		{api.ErrAddr, func(j *api.Job) { j.Cells = []api.Cell{{At: 2}} }},
		{api.ErrTwice, func(j *api.Job) { j.Cells = []api.Cell{{At: 1}, {At: 1}} }},
		{api.ErrReds, func(j *api.Job) { j.Reds = slices.Repeat(j.Reds, 5) }},
		{api.ErrRed, func(j *api.Job) { j.Reds[0].Op = 8 }},
		{api.ErrFuel, func(j *api.Job) { j.Fuel = 0 }},
		{api.ErrFuel, func(j *api.Job) { j.Fuel = 4001 }},
		{api.ErrShape, func(j *api.Job) { j.Shape.Kind = 0 }},
		{api.ErrShape, func(j *api.Job) { j.Shape.Lo = 1 }},
		{api.ErrShape, func(j *api.Job) { j.Shape.Stages = 7 }},
		{api.ErrShape, func(j *api.Job) { j.Shape.Items = -1 }},
		{api.ErrStep, func(j *api.Job) { j.Shape = api.Shape{Kind: api.ShapeFor, Hi: 2} }},
		{api.ErrTasks, func(j *api.Job) { j.Shape.Items = 67 }},
		{api.ErrTasks, func(j *api.Job) { j.Shape.Items = math.MaxInt }},
		{api.ErrCodes, func(j *api.Job) { j.Codes = j.Codes[:2] }},
		{api.ErrCodes, func(j *api.Job) { j.Codes = nil }},
		{api.ErrCodes, func(j *api.Job) { j.Codes = append(j.Codes, j.Codes[0]) }},
		{api.ErrLen, func(j *api.Job) { j.Codes[1] = nil }},
		{api.ErrReg, func(j *api.Job) { j.Codes[2][0].A = 16 }},
		{api.ErrCell, func(j *api.Job) { j.Reds = nil }},
		{api.ErrFall, func(j *api.Job) { j.Codes[0] = j.Codes[0][:2] }},
		{api.ErrWords, func(j *api.Job) { *j = api.Job{} }},
	}
}
