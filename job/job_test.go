package job

import (
	"math"
	"reflect"
	"testing"

	"outrider/api"
)

func halts() []api.Ins { return []api.Ins{{Kind: api.InsHalt}} }

// loop: a job of a loop that may be, with something in each of its parts.
func loop() api.Job {
	return api.Job{
		Words: 4,
		Cells: []api.Cell{{At: 1, Value: -2}, {At: 3, Value: 0}},
		Reds:  []api.Red{{Op: api.RedMax, Init: 7}, {Op: api.RedSum, Init: -1}},
		Fuel:  50,
		Shape: api.Shape{Kind: api.ShapeFor, Lo: -1, Hi: 6, Step: 3},
		Codes: [][]api.Ins{{
			{Kind: api.InsTwo, Op: api.OpMul, A: 11, B: 1, C: 2},
			{Kind: api.InsInto, A: 11, C: 1},
			{Kind: api.InsConst, A: 3, K: -9},
			{Kind: api.InsOther, A: 3, K: 0},
			{Kind: api.InsHalt},
		}},
	}
}

// pipe: a job of a pipeline that may be.
func pipe() api.Job {
	j := loop()
	j.Shape = api.Shape{Kind: api.ShapePipe, Items: 5, Stages: 3}
	j.Codes = append(j.Codes, halts(), []api.Ins{{Kind: api.InsEmit, A: 2}, {Kind: api.InsFail, A: 1}})
	return j
}

// deep: a copy of all that a job has, made without the layer's own means.
func deep(j api.Job) api.Job {
	j.Cells, j.Reds = append([]api.Cell{}, j.Cells...), append([]api.Red{}, j.Reds...)
	codes := [][]api.Ins{}
	for _, code := range j.Codes {
		codes = append(codes, append([]api.Ins{}, code...))
	}
	j.Codes = codes
	return j
}

// alike: by a second way, in which an empty list and nil are made the same ahead.
func alike(a, b api.Job) bool {
	return reflect.DeepEqual(deep(a), deep(b))
}

// valid: what Valid answers; it leaves what it is handed.
func valid(t *testing.T, j api.Job) api.Errno {
	t.Helper()
	was := deep(j)
	e := Valid(j)
	if !alike(j, was) {
		t.Fatal("what was handed in is changed")
	}
	if text, no := Text(j); e != api.OK && (text != "" || no != e) {
		t.Fatalf("Text of what may not be: %q %d", text, no)
	}
	return e
}

func TestValid(t *testing.T) {
	for _, j := range []api.Job{loop(), pipe(), {Words: 1, Fuel: 1, Shape: api.Shape{Kind: api.ShapeFor, Step: 1}, Codes: [][]api.Ins{halts()}}} {
		if e := valid(t, j); e != api.OK {
			t.Error(j, e)
		}
	}
	if e := valid(t, api.Job{}); e != api.ErrWords {
		t.Error(e)
	}
}

// flaw: a part of a job that may not be, and its error.
type flaw struct {
	no   api.Errno
	part int // of two flaws of the same part a job has one alone
	make func(*api.Job)
}

// flaws: of a pipeline's job, in the order of the chapter.
func flaws() []flaw {
	far := int(1) << 32
	return []flaw{
		{api.ErrWords, 0, func(j *api.Job) { j.Words = 0 }},
		{api.ErrWords, 0, func(j *api.Job) { j.Words = 65 }},
		{api.ErrWords, 0, func(j *api.Job) { j.Words = -1 }},
		{api.ErrWords, 0, func(j *api.Job) { j.Words = math.MinInt }},
		{api.ErrWords, 0, func(j *api.Job) { j.Words = far + 4 }},
		{api.ErrAddr, 1, func(j *api.Job) { j.Cells[0].At = 4 }},
		{api.ErrAddr, 1, func(j *api.Job) { j.Cells[0].At = -1 }},
		{api.ErrAddr, 1, func(j *api.Job) { j.Cells[0].At = far }},
		{api.ErrTwice, 2, func(j *api.Job) { j.Cells = append(j.Cells, api.Cell{At: 3}) }},
		{api.ErrReds, 3, func(j *api.Job) { j.Reds = append(j.Reds, j.Reds[0], j.Reds[0], j.Reds[0]) }},
		{api.ErrRed, 4, func(j *api.Job) { j.Reds[1].Op = 0 }},
		{api.ErrRed, 4, func(j *api.Job) { j.Reds[1].Op = 8 }},
		{api.ErrRed, 4, func(j *api.Job) { j.Reds[0].Op = -1 }},
		{api.ErrFuel, 5, func(j *api.Job) { j.Fuel = 0 }},
		{api.ErrFuel, 5, func(j *api.Job) { j.Fuel = 4001 }},
		{api.ErrFuel, 5, func(j *api.Job) { j.Fuel = -1 }},
		{api.ErrFuel, 5, func(j *api.Job) { j.Fuel = math.MaxInt }},
		{api.ErrFuel, 5, func(j *api.Job) { j.Fuel = far + 50 }},
		{api.ErrShape, 6, func(j *api.Job) { j.Shape.Kind = 0 }},
		{api.ErrShape, 6, func(j *api.Job) { j.Shape.Kind = 3 }},
		{api.ErrShape, 6, func(j *api.Job) { j.Shape.Lo = 1 }},
		{api.ErrShape, 6, func(j *api.Job) { j.Shape.Items = -1 }},
		{api.ErrShape, 6, func(j *api.Job) { j.Shape.Stages = 0 }},
		{api.ErrShape, 6, func(j *api.Job) { j.Shape.Stages = 7 }},
		{api.ErrStep, 6, func(j *api.Job) { j.Shape = api.Shape{Kind: api.ShapeFor, Hi: 2} }},
		{api.ErrTasks, 6, func(j *api.Job) { j.Shape.Items = 67 }},
		{api.ErrTasks, 6, func(j *api.Job) { j.Shape = api.Shape{Kind: api.ShapeFor, Hi: 201, Step: 1} }},
		{api.ErrCodes, 7, func(j *api.Job) { j.Codes = j.Codes[:2] }},
		{api.ErrCodes, 7, func(j *api.Job) { j.Codes = append(j.Codes, halts()) }},
		{api.ErrLen, 8, func(j *api.Job) { j.Codes[0] = nil }},
		{api.ErrOp, 8, func(j *api.Job) { j.Codes[0][0].Op = api.OpNeg }},
		{api.ErrReg, 8, func(j *api.Job) { j.Codes[0][2].A = 16 }},
		{api.ErrUnused, 8, func(j *api.Job) { j.Codes[0][2].B = 1 }},
		{api.ErrCell, 8, func(j *api.Job) { j.Codes[0][1].C = 4 }},
		{api.ErrTarget, 8, func(j *api.Job) { j.Codes[0][3].K = 5 }},
		{api.ErrFall, 8, func(j *api.Job) { j.Codes[0] = j.Codes[0][:4] }},
		{api.ErrUnused, 9, func(j *api.Job) { j.Codes[1][0].A = 1 }},
		{api.ErrReg, 10, func(j *api.Job) { j.Codes[2][1].A = -1 }},
	}
}

// P17.1: each error by itself, and of each two of them the one that the chapter names first
func TestWhichErrorIsFirst(t *testing.T) {
	all := flaws()
	for i, first := range all {
		j := deep(pipe())
		first.make(&j)
		if e := valid(t, j); e != first.no {
			t.Errorf("flaw %d: %d, not %d", i, e, first.no)
		}
		for k, later := range all {
			if later.part <= first.part {
				continue
			}
			j := deep(pipe())
			later.make(&j)
			first.make(&j)
			if e := valid(t, j); e != first.no {
				t.Errorf("flaws %d and %d: %d, not %d", i, k, e, first.no)
			}
		}
	}
}

// P17.1: the cells, the reductions and the instructions are gone through in order
func TestWhichPartIsFirst(t *testing.T) {
	j := loop()
	j.Cells = []api.Cell{{At: 1}, {At: 1}, {At: 9}}
	if e := valid(t, j); e != api.ErrTwice {
		t.Error(e)
	}
	j.Cells = []api.Cell{{At: 1}, {At: 9}, {At: 1}}
	if e := valid(t, j); e != api.ErrAddr {
		t.Error(e)
	}
	p := pipe()
	p.Codes[1], p.Codes[2] = nil, []api.Ins{{}}
	if e := valid(t, p); e != api.ErrLen {
		t.Error(e)
	}
	p.Codes[1], p.Codes[2] = []api.Ins{{}}, nil
	if e := valid(t, p); e != api.ErrOp {
		t.Error(e)
	}
}

// P17.1: the edges of the fuel
func TestFuel(t *testing.T) {
	for _, c := range []struct {
		fuel int
		want api.Errno
	}{
		{0, api.ErrFuel}, {1, api.OK}, {2, api.OK}, {3999, api.OK}, {4000, api.OK}, {4001, api.ErrFuel},
		{-1, api.ErrFuel}, {math.MinInt, api.ErrFuel}, {math.MaxInt, api.ErrFuel}, {1<<32 + 1, api.ErrFuel},
	} {
		j := loop()
		j.Fuel = c.fuel
		if e := valid(t, j); e != c.want {
			t.Errorf("fuel %d: %d, not %d", c.fuel, e, c.want)
		}
	}
}

// P17.1: as many codes as stages, one too few and one too many, of both kinds of shape
func TestCodes(t *testing.T) {
	for stages := range 7 {
		for many := range 9 {
			j := api.Job{Words: 1, Fuel: 1, Shape: api.Shape{Kind: api.ShapePipe, Items: 2, Stages: stages}}
			wanted := stages
			if stages == 0 {
				j.Shape, wanted = api.Shape{Kind: api.ShapeFor, Hi: 3, Step: 1}, 1
			}
			for range many {
				j.Codes = append(j.Codes, halts())
			}
			want := api.ErrCodes
			if many == wanted {
				want = api.OK
			}
			if e := valid(t, j); e != want {
				t.Errorf("%d codes of %d stages: %d, not %d", many, stages, e, want)
			}
		}
	}
	for _, s := range []api.Shape{{Kind: api.ShapeFor, Lo: 3, Step: 1}, {Kind: api.ShapePipe, Stages: 1}} {
		j := api.Job{Words: 1, Fuel: 1, Shape: s}
		if e := valid(t, j); e != api.ErrCodes {
			t.Error("no task, and no code", s, e)
		}
		if j.Codes = [][]api.Ins{halts()}; valid(t, j) != api.OK {
			t.Error("no task", s)
		}
	}
}

// P17.1: a code that names a reduction that isn't there, and the last one that is
func TestReductionsOfCodes(t *testing.T) {
	for many := range 5 {
		for cell := -1; cell < 6; cell++ {
			j := loop()
			j.Reds = nil
			for range many {
				j.Reds = append(j.Reds, api.Red{Op: api.RedXor})
			}
			j.Codes = [][]api.Ins{{{Kind: api.InsInto, A: 1, C: cell}, {Kind: api.InsHalt}}}
			want := api.ErrCell
			if cell >= 0 && cell < many {
				want = api.OK
			}
			if e := valid(t, j); e != want {
				t.Errorf("%d of %d: %d, not %d", cell, many, e, want)
			}
		}
	}
}

// differences: of a pipeline's job, one part each.
func differences() []func(*api.Job) {
	return []func(*api.Job){
		func(j *api.Job) { j.Words++ },
		func(j *api.Job) { j.Cells = j.Cells[:1] },
		func(j *api.Job) { j.Cells = nil },
		func(j *api.Job) { j.Cells = append(j.Cells, api.Cell{}) },
		func(j *api.Job) { j.Cells[0].At = 2 },
		func(j *api.Job) { j.Cells[1].Value = 1 },
		func(j *api.Job) { j.Cells[0], j.Cells[1] = j.Cells[1], j.Cells[0] },
		func(j *api.Job) { j.Reds = j.Reds[:1] },
		func(j *api.Job) { j.Reds = nil },
		func(j *api.Job) { j.Reds = append(j.Reds, api.Red{}) },
		func(j *api.Job) { j.Reds[0].Op = api.RedMin },
		func(j *api.Job) { j.Reds[1].Init++ },
		func(j *api.Job) { j.Reds[0], j.Reds[1] = j.Reds[1], j.Reds[0] },
		func(j *api.Job) { j.Fuel-- },
		func(j *api.Job) { j.Shape.Kind = api.ShapeFor },
		func(j *api.Job) { j.Shape.Lo++ },
		func(j *api.Job) { j.Shape.Hi++ },
		func(j *api.Job) { j.Shape.Step++ },
		func(j *api.Job) { j.Shape.Items++ },
		func(j *api.Job) { j.Shape.Stages-- },
		func(j *api.Job) { j.Codes = nil },
		func(j *api.Job) { j.Codes = j.Codes[:2] },
		func(j *api.Job) { j.Codes = append(j.Codes, nil) },
		func(j *api.Job) { j.Codes[0], j.Codes[1] = j.Codes[1], j.Codes[0] },
		func(j *api.Job) { j.Codes[1] = nil },
		func(j *api.Job) { j.Codes[2] = j.Codes[2][:1] },
		func(j *api.Job) { j.Codes[2] = append(j.Codes[2], api.Ins{}) },
		func(j *api.Job) { j.Codes[2][0].Kind = api.InsFail },
		func(j *api.Job) { j.Codes[0][0].Op = api.OpAdd },
		func(j *api.Job) { j.Codes[0][0].A++ },
		func(j *api.Job) { j.Codes[0][0].B++ },
		func(j *api.Job) { j.Codes[0][0].C++ },
		func(j *api.Job) { j.Codes[0][2].K++ },
	}
}

// P17.3: jobs that differ in one part alone
func TestSame(t *testing.T) {
	a := pipe()
	if !Same(a, a) || !Same(a, deep(a)) || !Same(api.Job{}, api.Job{}) || Same(a, api.Job{}) || Same(api.Job{}, a) {
		t.Error("whole jobs")
	}
	for i, change := range differences() {
		b := deep(a)
		change(&b)
		if Same(a, b) || Same(b, a) {
			t.Error("difference", i)
		}
		if !Same(b, b) || !Same(b, deep(b)) {
			t.Error("with itself", i)
		}
	}
	if !alike(a, pipe()) {
		t.Error("what was handed in is changed")
	}
}

// P17.3: a nil list is an empty one
func TestSameOfEmptyLists(t *testing.T) {
	none := api.Job{Words: 2}
	for _, empty := range []api.Job{
		{Words: 2, Cells: []api.Cell{}}, {Words: 2, Reds: []api.Red{}}, {Words: 2, Codes: [][]api.Ins{}},
		{Words: 2, Cells: make([]api.Cell, 0, 3), Reds: make([]api.Red, 0, 3), Codes: make([][]api.Ins, 0, 3)},
	} {
		if !Same(none, empty) || !Same(empty, none) {
			t.Error(empty)
		}
	}
	a, b := api.Job{Codes: [][]api.Ins{nil, {}}}, api.Job{Codes: [][]api.Ins{{}, nil}}
	if !Same(a, b) || !Same(a, Copy(b)) || Same(a, api.Job{Codes: [][]api.Ins{nil}}) || Same(a, api.Job{}) {
		t.Error("empty codes")
	}
}

// P17.3: a copy of which each part is changed, and one of which the first job is
func TestCopy(t *testing.T) {
	for i, change := range differences() {
		a := pipe()
		c := Copy(a)
		if !alike(a, c) || !alike(a, pipe()) {
			t.Fatal(c)
		}
		change(&c)
		if !alike(a, pipe()) {
			t.Error("the job changes with its copy", i)
		}
		c = Copy(a)
		change(&a)
		if !alike(c, pipe()) {
			t.Error("the copy changes with its job", i)
		}
	}
	for _, j := range []api.Job{{}, {Words: -5, Fuel: math.MaxInt, Shape: api.Shape{Kind: 9, Lo: 1, Items: -2}, Codes: [][]api.Ins{nil, {{Kind: 77}}}}} {
		if c := Copy(j); !alike(j, c) || !Same(j, c) {
			t.Error(c)
		}
	}
}

// P17.3: what lies behind a list's length is neither copied nor written over, and lists of a copy share nothing
func TestCopyKeepsApart(t *testing.T) {
	a := pipe()
	a.Cells, a.Reds, a.Codes = append(a.Cells, api.Cell{At: 8})[:2], append(a.Reds, api.Red{Op: 8})[:2], append(a.Codes, halts())[:3]
	a.Codes[0] = a.Codes[0][:3]
	c := Copy(a)
	for _, l := range [][]api.Ins{c.Codes[0], c.Codes[1], c.Codes[2]} {
		_ = append(l, api.Ins{Kind: 55})
	}
	if x := a.Codes[0][:4][3]; x != loop().Codes[0][3] {
		t.Error("written behind the job's list", x)
	}
	if !Same(a, c) {
		t.Error("a list of the copy goes on in another one")
	}
	for _, x := range c.Cells[:cap(c.Cells)] {
		if x.At == 8 {
			t.Error("a cell that wasn't handed in")
		}
	}
	for _, x := range c.Codes[0][:cap(c.Codes[0])] {
		if x.Kind == api.InsOther {
			t.Error("an instruction that wasn't handed in")
		}
	}
}
