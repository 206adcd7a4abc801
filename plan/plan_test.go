package plan

import (
	"math"
	"slices"
	"testing"

	"outrider/api"
)

const (
	least    = math.MinInt64
	greatest = math.MaxInt64
)

func loop(lo, hi, step int64) api.Shape {
	return api.Shape{Kind: api.ShapeFor, Lo: lo, Hi: hi, Step: step}
}

func pipe(items, stages int) api.Shape {
	return api.Shape{Kind: api.ShapePipe, Items: items, Stages: stages}
}

type task struct {
	index, stage int64
}

func counts(t *testing.T, s api.Shape, want int, wantError api.Errno) {
	t.Helper()
	for range 2 { // asking again answers the same
		if n, e := Count(s); n != want || e != wantError {
			t.Errorf("Count(%+v): %d %d, not %d %d", s, n, e, want, wantError)
		}
	}
}

// faulty: a shape of which nothing can be had but its error.
func faulty(t *testing.T, s api.Shape, want api.Errno) {
	t.Helper()
	counts(t, s, 0, want)
	for _, age := range []int{math.MinInt, -1, 0, 1, 199, 200, math.MaxInt} {
		at(t, s, age, task{}, want)
	}
	for _, index := range []int64{s.Lo, s.Hi, 0, 1, -1, least, greatest} {
		for stage := int64(-1); stage < 3; stage++ {
			finds(t, s, task{index, stage}, -1)
		}
	}
}

func at(t *testing.T, s api.Shape, age int, want task, wantError api.Errno) {
	t.Helper()
	index, stage, e := At(s, age)
	if (task{index, stage}) != want || e != wantError {
		t.Errorf("At(%+v, %d): %d/%d %d, not %v %d", s, age, index, stage, e, want, wantError)
	}
}

func finds(t *testing.T, s api.Shape, x task, want int) {
	t.Helper()
	if age := Find(s, x.index, x.stage); age != want {
		t.Errorf("Find(%+v, %v): %d, not %d", s, x, age, want)
	}
}

// has: just these tasks, there and back, and none ahead of or behind them.
func has(t *testing.T, s api.Shape, want []task) {
	t.Helper()
	counts(t, s, len(want), api.OK)
	for age, x := range want {
		at(t, s, age, x, api.OK)
		finds(t, s, x, age)
	}
	for _, age := range []int{math.MinInt, math.MinInt32, -1, len(want), len(want) + 1, 1 << 32, math.MaxInt} {
		at(t, s, age, task{}, api.ErrAge)
	}
}

func loops(t *testing.T, lo, hi, step int64, indexes ...int64) {
	t.Helper()
	l := make([]task, len(indexes))
	for i, index := range indexes {
		l[i].index = index
	}
	has(t, loop(lo, hi, step), l)
}

// P15.1, P15.2: the chapter's examples
func TestExamples(t *testing.T) {
	loops(t, 3, 10, 3, 3, 6, 9)
	loops(t, 5, 0, -2, 5, 3, 1)
	loops(t, 0, 0, 1)
	has(t, pipe(2, 3), []task{{0, 0}, {0, 1}, {0, 2}, {1, 0}, {1, 1}, {1, 2}})
	faulty(t, loop(least, greatest, 1), api.ErrTasks)
}

func notKinds() []api.ShapeKind {
	return []api.ShapeKind{math.MinInt, -2, -1, 0, 3, 4, 1<<8 + 1, 1<<32 + 1, 1<<32 + 2, math.MaxInt}
}

// P15.1: a kind that isn't there, whatever else there is
func TestNoKind(t *testing.T) {
	for _, kind := range notKinds() {
		for _, s := range []api.Shape{{}, loop(0, 3, 1), loop(0, 0, 0), loop(0, 300, 1), pipe(2, 3), pipe(300, 1), pipe(-1, 7)} {
			s.Kind = kind
			faulty(t, s, api.ErrShape)
		}
	}
}

// P15.1: a number that the kind doesn't name, told ahead of all else that is wrong
func TestUnnamed(t *testing.T) {
	for _, n := range []int64{least, -1, 1, 3, greatest} {
		for _, s := range []api.Shape{loop(0, 3, 1), loop(0, 0, 1), loop(0, 3, 0), loop(0, 300, 1)} {
			s.Items = int(n)
			faulty(t, s, api.ErrShape)
			s.Stages = 1
			faulty(t, s, api.ErrShape)
			s.Items, s.Stages = 0, int(n)
			faulty(t, s, api.ErrShape)
		}
		for _, s := range []api.Shape{pipe(2, 3), pipe(0, 1), pipe(300, 1)} {
			for _, turned := range []api.Shape{loop(n, 0, 0), loop(0, n, 0), loop(0, 0, n), loop(n, n, n)} {
				turned.Kind, turned.Items, turned.Stages = s.Kind, s.Items, s.Stages
				faulty(t, turned, api.ErrShape)
			}
		}
	}
}

// P15.1: a Step of 0, wherever the ends are
func TestNoStep(t *testing.T) {
	for _, lo := range []int64{least, -1, 0, 1, greatest} {
		for _, hi := range []int64{least, -1, 0, 1, greatest} {
			faulty(t, loop(lo, hi, 0), api.ErrStep)
		}
	}
}

// P15.1, P15.2: loops at the ends of the words; a step that would lead past them ends the loop
func TestLoopEdges(t *testing.T) {
	loops(t, greatest-2, greatest, 1, greatest-2, greatest-1)
	loops(t, greatest-1, greatest, 5, greatest-1)
	loops(t, greatest-5, greatest, 4, greatest-5, greatest-1)
	loops(t, least, least+3, 1, least, least+1, least+2)
	loops(t, least+3, least, -1, least+3, least+2, least+1)
	loops(t, least+1, least, -5, least+1)
	loops(t, greatest, greatest-3, -1, greatest, greatest-1, greatest-2)
	loops(t, least, greatest, greatest, least, -1, greatest-1)
	loops(t, greatest, least, least, greatest, -1)
	loops(t, greatest, least, -greatest, greatest, 0, -greatest)
	loops(t, least, greatest, 1<<62, least, -1<<62, 0, 1<<62)
	loops(t, greatest, least, -1<<62, greatest, 1<<62-1, -1, -1<<62-1)
	loops(t, 0, greatest, greatest, 0)
	loops(t, -1, greatest, greatest, -1, greatest-1)
	loops(t, 0, least, least, 0)
	loops(t, 1, least, least, 1, least+1)
	loops(t, 4, 5, greatest, 4)
	loops(t, 5, 4, least, 5)
	faulty(t, loop(greatest, least, -1), api.ErrTasks)
	faulty(t, loop(least, 0, 1), api.ErrTasks)
	faulty(t, loop(0, greatest, 2), api.ErrTasks)
}

// P15.1, P15.2: ends that are equal, or the wrong way round for the Step: no task
func TestLoopOfNone(t *testing.T) {
	for _, step := range []int64{1, 2, 7, greatest} {
		for _, lo := range []int64{least, -1, 0, 1, greatest} {
			loops(t, lo, lo, step)
			loops(t, lo, lo, -step)
			loops(t, lo, lo, least)
			finds(t, loop(lo, lo, step), task{lo, 0}, -1)
		}
		loops(t, 1, 0, step)
		loops(t, 0, 1, -step)
		loops(t, greatest, least, step)
		loops(t, least, greatest, -step)
		finds(t, loop(greatest, least, step), task{greatest, 0}, -1)
		finds(t, loop(least, greatest, -step), task{least, 0}, -1)
	}
	loops(t, least, greatest, least)
	loops(t, 0, greatest, least)
}

// P15.1: as many tasks as there may be, one less, and one too many; Hi a whole step behind the last one, or just behind it
func TestLoopOfMany(t *testing.T) {
	manyFrom := func(lo, step int64) {
		t.Helper()
		one := step / max(step, -step)
		for _, back := range []int64{0, step - one} {
			counts(t, loop(lo, lo+199*step-back, step), 199, api.OK)
			counts(t, loop(lo, lo+200*step-back, step), 200, api.OK)
			faulty(t, loop(lo, lo+201*step-back, step), api.ErrTasks)
		}
	}
	for _, step := range []int64{1, 2, 3, 1000, 1 << 40, 1 << 55} {
		for _, lo := range []int64{0, -7, 5, least} {
			manyFrom(lo, step)
		}
		for _, lo := range []int64{0, -7, 5, greatest} {
			manyFrom(lo, -step)
		}
	}
	manyFrom(least, 1<<56)
	manyFrom(greatest, -1<<56)
}

// P15.1, P15.2: as many tasks as there may be in a pipeline; what would go round as a product is too many
func TestPipeOfMany(t *testing.T) {
	for stages := 1; stages <= 6; stages++ {
		most := 200 / stages
		var l []task
		for item := range most {
			for stage := range stages {
				l = append(l, task{int64(item), int64(stage)})
			}
		}
		has(t, pipe(most, stages), l)
		has(t, pipe(most-1, stages), l[:len(l)-stages])
		has(t, pipe(1, stages), l[:stages])
		has(t, pipe(0, stages), nil)
		for _, items := range []int{most + 1, 201, 1 << 32, 1 << 61, 1 << 62, math.MaxInt / stages, math.MaxInt/max(stages, 2) + 1, math.MaxInt} {
			faulty(t, pipe(items, stages), api.ErrTasks)
		}
	}
	counts(t, pipe(199, 1), 199, api.OK)
	counts(t, pipe(200, 1), 200, api.OK)
	counts(t, pipe(201, 1), 0, api.ErrTasks)
}

// P15.1: items and stages that may not be, told ahead of too many tasks
func TestPipeErrors(t *testing.T) {
	for _, stages := range []int{math.MinInt, -1, 0, 7, 8, 200, 1<<32 + 1, math.MaxInt} {
		for _, items := range []int{math.MinInt, -1, 0, 1, 2, 200, 201, math.MaxInt} {
			faulty(t, pipe(items, stages), api.ErrShape)
		}
	}
	for _, items := range []int{math.MinInt, -1 << 32, -2, -1} {
		for stages := 1; stages <= 6; stages++ {
			faulty(t, pipe(items, stages), api.ErrShape)
		}
	}
}

// P15.2: an index between two of the loop's, ahead of its first, behind its last one; a stage that isn't 0
func TestFindInLoop(t *testing.T) {
	up, down := loop(3, 10, 3), loop(5, 0, -2)
	for _, index := range []int64{least, -3, 0, 1, 2, 4, 5, 7, 8, 10, 11, 12, 15, 1<<32 + 3, greatest} {
		finds(t, up, task{index, 0}, -1)
	}
	for _, index := range []int64{least, -3, -1, 0, 2, 4, 6, 7, 9, 1<<32 + 5, greatest} {
		finds(t, down, task{index, 0}, -1)
	}
	for _, stage := range []int64{least, -1, 1, 2, 1 << 32, greatest} {
		for index := int64(0); index < 12; index++ {
			finds(t, up, task{index, stage}, -1)
			finds(t, down, task{index, stage}, -1)
		}
	}
	wide := loop(least, greatest, greatest) // least, -1, greatest-1
	for _, index := range []int64{least + 1, -2, 0, greatest - 2, greatest} {
		finds(t, wide, task{index, 0}, -1)
	}
	for _, index := range []int64{least, -1 << 62, 1, greatest} {
		finds(t, loop(0, 1<<62+1, 1<<62), task{index, 0}, -1)
	}
}

// P15.2: an item or a stage that the pipeline doesn't have
func TestFindInPipe(t *testing.T) {
	s := pipe(4, 3)
	for _, stage := range []int64{least, -1, 3, 4, 1 << 32, greatest} {
		for item := int64(-1); item < 5; item++ {
			finds(t, s, task{item, stage}, -1)
		}
	}
	for _, item := range []int64{least, -1, 4, 5, 1 << 32, 1 << 62, greatest} {
		for stage := int64(-1); stage < 4; stage++ {
			finds(t, s, task{item, stage}, -1)
		}
	}
	finds(t, s, task{0, 0}, 0)
	finds(t, s, task{0, 1}, 1)
	finds(t, s, task{0, 2}, 2)
	finds(t, s, task{3, 2}, 11)
	finds(t, pipe(0, 2), task{0, 0}, -1)
}

// P15.2: the stages of a shape, also of one with an error
func TestStages(t *testing.T) {
	for _, stages := range []int{math.MinInt, -1, 0, 1, 2, 6, 7, 200, math.MaxInt} {
		for _, items := range []int{-1, 0, 2, 300} {
			s := pipe(items, stages)
			s.Step = int64(items)
			if n := Stages(s); n != stages {
				t.Errorf("Stages(%+v): %d", s, n)
			}
		}
		for _, kind := range append(notKinds(), api.ShapeFor) {
			if n := Stages(api.Shape{Kind: kind, Stages: stages}); n != 1 {
				t.Errorf("Stages of kind %d: %d", kind, n)
			}
		}
	}
	if n := Stages(loop(0, 9, 2)); n != 1 {
		t.Errorf("Stages of a loop: %d", n)
	}
}

// tasks: all of them, by their ages.
func tasks(t *testing.T, s api.Shape) []task {
	t.Helper()
	many, e := Count(s)
	if e != api.OK {
		t.Fatalf("Count(%+v): %d", s, e)
	}
	l := make([]task, many)
	for age := range l {
		index, stage, e := At(s, age)
		if e != api.OK {
			t.Fatalf("At(%+v, %d): %d", s, age, e)
		}
		l[age] = task{index, stage}
	}
	return l
}

// P15.3: ends moved by the same number move the indexes so
func TestMoved(t *testing.T) {
	for _, s := range []api.Shape{loop(0, 9, 2), loop(0, 9, 9), loop(0, 9, greatest), loop(9, 0, -4), loop(9, 0, least), loop(0, 200, 1)} {
		for _, by := range []int64{1, -1, 1000, least, least + 1, greatest - 200, -1 << 62} {
			moved := s
			moved.Lo, moved.Hi = s.Lo+by, s.Hi+by
			l, want := tasks(t, moved), tasks(t, s)
			for i := range want {
				want[i].index += by
			}
			if !slices.Equal(l, want) {
				t.Errorf("%+v moved by %d: %v, not %v", s, by, l, want)
			}
		}
	}
}
