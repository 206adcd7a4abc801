package script

import (
	"math"
	"slices"
	"testing"

	"outrider/api"
	"outrider/job"
)

// cut: a script's rounds and aborts, told twice the same, without changing it.
func cut(t *testing.T, l []api.Entry, workers, rounds, aborts int) {
	t.Helper()
	was := slices.Clone(l)
	for range 2 {
		if n, a := Rounds(l, workers); n != rounds || a != aborts {
			t.Errorf("%.60s, %d workers: %d rounds, %d aborts, not %d, %d", shown(l), workers, n, a, rounds, aborts)
		}
	}
	if !slices.Equal(was, l) {
		t.Error("the entries were changed")
	}
}

// entries of a text that can be read
func entries(t *testing.T, text string) []api.Entry {
	t.Helper()
	l, at, e := Parse(text)
	if e != api.OK {
		t.Fatal(text, at, e)
	}
	return l
}

// P25.3: a round ends with the entry with which each worker has been picked in it
func TestRounds(t *testing.T) {
	for _, c := range []struct {
		text                    string
		workers, rounds, aborts int
	}{
		{"", 1, 0, 0}, {"", 2, 0, 0}, {"", 8, 0, 0},
		{"0", 1, 1, 0}, {"0*7", 1, 7, 0}, {"0 1 0", 1, 2, 0}, {"1*9", 1, 0, 0}, {"!0*3", 1, 0, 3}, {"0 !0 0", 1, 2, 1},
		{"0 1", 2, 1, 0}, {"0*5 1", 2, 1, 0}, {"0*5 1*5", 2, 1, 0}, {"0*5 1*5 0", 2, 2, 0}, {"(0 1)*4", 2, 4, 0}, {"(0 1)*4 0", 2, 4, 0}, {"(0 1 1)*4", 2, 4, 0}, {"0 0 !1 1 1 0 1", 2, 2, 1},
		{"0 !1", 2, 0, 1}, {"!0 !1", 2, 0, 2}, {"0 2 3 9 2147483647", 2, 0, 0}, {"0 2 1", 2, 1, 0}, {"!9 0 !2147483647 1", 2, 1, 2},
		{"0 1 2", 3, 1, 0}, {"2 1 0", 3, 1, 0}, {"2 1 2 0 1 0 2", 3, 2, 0}, {"0 1 0 1 0 1", 3, 0, 0}, {"(0 1 2 3 4 5 6 7)*3", 8, 3, 0}, {"(7 6 5 4 3 2 1 0)*3 7", 8, 3, 0}, {"(0 1 2 3 4 5 6)*30", 8, 0, 0}, {"(0 1 2 3 4 5 6)*30 7", 8, 1, 0},
		{"(0 1 2 3 4 5 6 7)*3 !5", 4, 3, 1},
	} {
		cut(t, entries(t, c.text), c.workers, c.rounds, c.aborts)
	}
}

// P25.3: of workers of whom there can't be so many there are no rounds; aborts are counted all the same
func TestRoundsWorkers(t *testing.T) {
	l := entries(t, "(0 1 2 3 4 5 6 7 8 9 !3)*5")
	for _, workers := range []int{math.MinInt, -8, -1, 0, api.MaxWorkers + 1, api.MaxWorkers + 2, 64, math.MaxInt} {
		cut(t, l, workers, 0, 5)
		cut(t, nil, workers, 0, 0)
	}
	for workers := 1; workers <= api.MaxWorkers; workers++ {
		cut(t, l, workers, 5, 5)
	}
}

// P25.3: picks and aborts of workers that there aren't
func TestRoundsRawWorkers(t *testing.T) {
	for _, w := range []int{math.MinInt, -1, -2, 2, 8, 64, math.MaxInt} {
		cut(t, picks(0, w, w, 1), 2, 1, 0)
		cut(t, picks(0, w), 2, 0, 0)
		cut(t, append(picks(w, 0), abort(w)), 1, 1, 1)
	}
}

// aJob: of so many tasks, with this fuel.
func aJob(tasks, fuel int) api.Job {
	return api.Job{
		Words: 4, Fuel: fuel, Cells: []api.Cell{{At: 1, Value: 5}}, Reds: []api.Red{{Op: api.RedSum}}, Shape: api.Shape{Kind: api.ShapeFor, Hi: int64(tasks), Step: 1},
		Codes: [][]api.Ins{{{Kind: api.InsLoad, A: 3, B: 4, K: 1}, {Kind: api.InsHalt}}},
	}
}

func aConfig() api.Config {
	return api.Config{Workers: 2, Window: 4, Policy: api.Dynamic, Chunk: 1, Reads: 8, Writes: 8, Outs: 8, Arena: 32, Edges: 32, Retry: 2}
}

// bounds: both of them, of a job that stays as it is.
func bounds(t *testing.T, j api.Job, c api.Config, aborts, bound, quick int) {
	t.Helper()
	was := job.Copy(j)
	if n, e := Bound(j, c, aborts); n != bound || e != api.OK {
		t.Errorf("Bound: %d, %v, not %d", n, e, bound)
	}
	if n, e := Quick(j, c); n != quick || e != api.OK {
		t.Errorf("Quick: %d, %v, not %d", n, e, quick)
	}
	if !job.Same(was, j) {
		t.Error("the job was changed")
	}
}

// P25.4: the numbers of the tasks, the fuel, the config and the aborts
func TestBounds(t *testing.T) {
	c := aConfig()
	bounds(t, aJob(5, 7), c, 0, 250, 42)
	bounds(t, aJob(5, 7), c, 2, 270, 42)
	bounds(t, aJob(4, 7), c, 1, 210, 28)
	bounds(t, aJob(1, 1), c, 3, 32, 8)
	bounds(t, aJob(6, 7), c, -1, 300, 42)
	bounds(t, aJob(6, 7), c, math.MinInt, 300, 42)
	bounds(t, aJob(0, 7), c, 0, 0, 0)
	bounds(t, aJob(-3, 7), c, 0, 0, 0)
	bounds(t, aJob(0, 7), c, 3, 30, 0)
	bounds(t, aJob(0, 7), c, -3, 0, 0)
	c.Retry = 0
	bounds(t, aJob(5, 7), c, 2, 170, 42)
	c.Retry = 9
	bounds(t, aJob(200, 4000), c, 40000, 200*12*4003+40000*4003, 100*4007)
	c.Window = 1
	bounds(t, aJob(5, 7), c, 0, 600, 60)
	c.Window, c.Workers = 32, 8
	bounds(t, aJob(5, 7), c, 0, 600, 26)
	bounds(t, aJob(8, 7), c, 0, 960, 26)
	bounds(t, aJob(9, 7), c, 0, 1080, 52)
	c.Window = 3
	bounds(t, aJob(9, 7), c, 0, 1080, 48)
	bounds(t, aJob(10, 7), c, 0, 1200, 64)
	c.Window, c.Workers = 32, 1
	bounds(t, aJob(10, 7), c, 0, 1200, 120)
	c.Policy, c.Chunk, c.Force = api.Guided, 200, true
	bounds(t, aJob(10, 7), c, 0, 1200, 120)
	pipe := aJob(1, 7)
	pipe.Shape = api.Shape{Kind: api.ShapePipe, Items: 5, Stages: 3}
	pipe.Codes = slices.Repeat(pipe.Codes, 3)
	bounds(t, pipe, c, 4, 15*12*10+40, 180)
}

// P25.4: where the answer wouldn't fit, it is the greatest int
func TestBoundThatDoesNotFit(t *testing.T) {
	c := aConfig()
	j := aJob(5, 7) // 250, and 10 of an abort
	fits := (math.MaxInt - 250) / 10
	bounds(t, j, c, fits, 250+10*fits, 42)
	for _, aborts := range []int{fits + 1, fits + 2, math.MaxInt / 10, math.MaxInt/10 + 1, math.MaxInt / 2, math.MaxInt - 1, math.MaxInt} {
		bounds(t, j, c, aborts, math.MaxInt, 42)
	}
	none := aJob(0, 4000)
	bounds(t, none, c, math.MaxInt/4003, math.MaxInt/4003*4003, 0)
	bounds(t, none, c, math.MaxInt/4003+1, math.MaxInt, 0)
}

// noBounds: neither of them, and this error.
func noBounds(t *testing.T, j api.Job, c api.Config, want api.Errno) {
	t.Helper()
	for _, aborts := range []int{0, -1, 5, math.MaxInt} {
		if n, e := Bound(j, c, aborts); n != 0 || e != want {
			t.Errorf("Bound: %d, %v, not %v", n, e, want)
		}
	}
	if n, e := Quick(j, c); n != 0 || e != want {
		t.Errorf("Quick: %d, %v, not %v", n, e, want)
	}
}

// P25.4: jobs that may not be, then configs that may not be
func TestBoundsRefuse(t *testing.T) {
	jobs := []struct {
		turn func(j *api.Job)
		e    api.Errno
	}{
		{func(j *api.Job) { j.Words = 65 }, api.ErrWords}, {func(j *api.Job) { j.Words = 0; j.Fuel = 0 }, api.ErrWords}, {func(j *api.Job) { j.Cells[0].At = 4 }, api.ErrAddr}, {func(j *api.Job) { j.Reds[0].Op = 9 }, api.ErrRed},
		{func(j *api.Job) { j.Fuel = 0 }, api.ErrFuel}, {func(j *api.Job) { j.Fuel = 4001 }, api.ErrFuel}, {func(j *api.Job) { j.Fuel = math.MaxInt }, api.ErrFuel},
		{func(j *api.Job) { j.Shape.Step = 0 }, api.ErrStep}, {func(j *api.Job) { j.Shape.Hi = 201 }, api.ErrTasks}, {func(j *api.Job) { j.Shape.Kind = 3 }, api.ErrShape},
		{func(j *api.Job) { j.Codes = nil }, api.ErrCodes}, {func(j *api.Job) { j.Codes[0] = nil }, api.ErrLen}, {func(j *api.Job) { *j = api.Job{} }, api.ErrWords},
	}
	configs := []struct {
		turn func(c *api.Config)
		e    api.Errno
	}{
		{func(c *api.Config) { c.Workers = 0 }, api.ErrWorkers}, {func(c *api.Config) { c.Workers = 9; c.Window = 0 }, api.ErrWorkers}, {func(c *api.Config) { c.Policy = 4 }, api.ErrPolicy}, {func(c *api.Config) { c.Chunk = 0 }, api.ErrSize},
		{func(c *api.Config) { c.Window = 0 }, api.ErrConfig}, {func(c *api.Config) { c.Window = math.MaxInt }, api.ErrConfig}, {func(c *api.Config) { c.Retry = -1 }, api.ErrConfig}, {func(c *api.Config) { c.Retry = math.MaxInt }, api.ErrConfig},
		{func(c *api.Config) { *c = api.Config{} }, api.ErrWorkers},
	}
	for _, x := range jobs {
		j := aJob(5, 7)
		x.turn(&j)
		noBounds(t, j, aConfig(), x.e)
		for _, y := range configs {
			c := aConfig()
			y.turn(&c)
			noBounds(t, j, c, x.e)
			noBounds(t, aJob(5, 7), c, y.e)
			noBounds(t, aJob(0, 7), c, y.e)
		}
	}
}

// P25.5: the edges
func TestFair(t *testing.T) {
	for _, c := range []struct{ workers, rounds, many int }{
		{1, 1, 1}, {1, 5, 5}, {2, 1, 2}, {2, 3, 6}, {8, 1, 8}, {8, 2, 16},
		{0, 5, 0}, {-1, 5, 0}, {9, 5, 0}, {math.MinInt, 5, 0}, {math.MaxInt, 5, 0}, {2, 0, 0}, {2, -1, 0}, {8, math.MinInt, 0}, {0, 0, 0}, {9, math.MaxInt, 0},
		{1, 39999, 39999}, {1, 40000, 40000}, {1, 40001, 40000}, {1, math.MaxInt, 40000}, {2, 20000, 40000}, {2, 20001, 40000}, {3, 13333, 39999}, {3, 13334, 39999}, {3, math.MaxInt, 39999}, {4, 10001, 40000},
		{5, 8001, 40000}, {6, 6666, 39996}, {6, 6667, 39996}, {7, 5714, 39998}, {7, 5715, 39998}, {8, 4999, 39992}, {8, 5000, 40000}, {8, 5001, 40000}, {8, math.MaxInt, 40000},
	} {
		l := Fair(c.workers, c.rounds)
		if len(l) != c.many {
			t.Errorf("%d workers, %d rounds: %d entries, not %d", c.workers, c.rounds, len(l), c.many)
			continue
		}
		for i, e := range l {
			if e != (api.Entry{Worker: i % c.workers}) {
				t.Fatal(c, i, e)
			}
		}
		if c.many > 0 {
			cut(t, l, c.workers, c.many/c.workers, 0)
		}
	}
}

// P25.5, rule 5: each answer is new memory
func TestFairNewMemory(t *testing.T) {
	a, b := Fair(3, 2), Fair(3, 2)
	for i := range a {
		a[i] = abort(9)
	}
	if shown(b) != "0 1 2 0 1 2" || shown(Fair(3, 2)) != shown(b) {
		t.Error(b)
	}
}
