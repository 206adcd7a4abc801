package plan

import (
	"math/big"
	"math/rand"
	"slices"
	"testing"

	"outrider/api"
)

func someWord(r *rand.Rand) int64 {
	switch r.Intn(4) {
	case 0:
		return int64(r.Intn(9)) - 4
	case 1:
		return least + int64(r.Intn(300))
	case 2:
		return greatest - int64(r.Intn(300))
	}
	return int64(r.Uint64()) >> r.Intn(63)
}

func someShape(r *rand.Rand) api.Shape {
	if r.Intn(3) == 0 {
		return pipe(r.Intn(230)-5, r.Intn(9)-1)
	}
	s := loop(someWord(r), someWord(r), someWord(r))
	if r.Intn(2) == 0 { // ends that are near one another
		s.Hi = s.Lo + int64(r.Intn(900)) - 450
	}
	if r.Intn(2) == 0 {
		s.Step = int64(r.Intn(15)) - 7
	}
	return s
}

// goneThrough: a loop's indexes, found one behind the other with numbers of any length; false, if there are too many.
func goneThrough(s api.Shape) ([]task, bool) {
	var l []task
	hi, step := big.NewInt(s.Hi), big.NewInt(s.Step)
	for x := big.NewInt(s.Lo); x.Cmp(hi)*step.Sign() < 0; x.Add(x, step) {
		if len(l) == api.MaxTasks {
			return nil, false
		}
		l = append(l, task{x.Int64(), 0})
	}
	return l, true
}

// rowByRow: a pipeline's tasks.
func rowByRow(s api.Shape) ([]task, bool) {
	var l []task
	for item := range s.Items {
		for stage := range s.Stages {
			l = append(l, task{int64(item), int64(stage)})
		}
	}
	return l, len(l) <= api.MaxTasks
}

func secondWay(s api.Shape) ([]task, api.Errno) {
	list, none := goneThrough, s.Step == 0
	e := api.ErrStep
	if s.Kind == api.ShapePipe {
		list, none, e = rowByRow, s.Items < 0 || s.Stages < 1 || s.Stages > api.MaxStages, api.ErrShape
	}
	if none {
		return nil, e
	}
	l, ok := list(s)
	if !ok {
		return nil, api.ErrTasks
	}
	return l, api.OK
}

// near: tasks that may or may not be the shape's.
func near(r *rand.Rand, s api.Shape) task {
	return task{[]int64{s.Lo, s.Hi, 0, someWord(r)}[r.Intn(4)] + int64(r.Intn(40)) - 20, int64(r.Intn(8)) - 1}
}

// P15.1, P15.2, P15.3: shapes at random, held against their tasks gone through one by one; what isn't among these isn't found
func TestRandom(t *testing.T) {
	r := rand.New(rand.NewSource(15))
	some := map[api.Errno]int{}
	for range 6000 {
		s := someShape(r)
		l, e := secondWay(s)
		some[e]++
		if e != api.OK {
			faulty(t, s, e)
			continue
		}
		has(t, s, l)
		for range 40 {
			x := near(r, s)
			finds(t, s, x, slices.Index(l, x))
		}
	}
	for _, e := range []api.Errno{api.OK, api.ErrStep, api.ErrShape, api.ErrTasks} {
		if some[e] < 100 {
			t.Errorf("only %d shapes with error %d", some[e], e)
		}
	}
}

// P15.3: ages rise as the loops go: indexes by the Step's sign, items rising and the stages rising in each
func TestRising(t *testing.T) {
	r := rand.New(rand.NewSource(3))
	for range 3000 {
		s := someShape(r)
		if _, e := Count(s); e != api.OK {
			continue
		}
		l := tasks(t, s)
		for i := 1; i < len(l); i++ {
			a, b := l[i-1], l[i]
			if s.Step < 0 {
				a, b = b, a
			}
			if a.index > b.index || a.index == b.index && a.stage >= b.stage {
				t.Fatalf("%+v: %v ahead of %v", s, l[i-1], l[i])
			}
		}
	}
}
