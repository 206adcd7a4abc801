package fold

import (
	"math/rand"
	"slices"
	"strconv"
	"strings"
	"testing"

	"outrider/api"
	"outrider/eval"
	"outrider/gen"
	"outrider/tree"
)

// maker makes source texts at random.
type maker struct {
	*rand.Rand
	reds int
}

func (m maker) expr(deep int) string {
	switch pick := m.Intn(8); {
	case deep == 0 || pick < 3:
		return []string{"n", "i", "k", "x", strconv.Itoa(m.Intn(6))}[m.Intn(5)]
	case pick == 3:
		return "m[" + m.place(deep-1) + "]"
	}
	op := []string{" + ", " - ", " * ", " / ", " % ", " ^ ", " < ", " == "}[m.Intn(8)]
	return "(" + m.expr(deep-1) + op + m.expr(deep-1) + ")"
}

// place: now and then one that is outside.
func (m maker) place(deep int) string {
	if m.Intn(20) == 0 {
		return m.expr(deep)
	}
	return "(" + m.expr(deep) + " & 3)"
}

func (m maker) stmt(deep int) string {
	switch pick := m.Intn(13); {
	case pick < 4:
		return "m[" + m.place(1) + "] = " + m.expr(2) + ";"
	case pick < 6:
		return "emit " + m.expr(2) + ";"
	case pick < 8 && m.reds > 0:
		return "into " + strconv.Itoa(m.Intn(m.reds)) + " " + m.expr(2) + ";"
	case pick == 8 && deep > 0:
		return "if (" + m.expr(2) + ") {" + m.stmts(deep-1) + "} else {" + m.stmts(deep-1) + "}"
	case pick == 9 && deep > 0:
		return "y = 3; while (y > 0) { y = y - 1; " + m.stmt(0) + "}"
	case pick == 10:
		return "if (" + m.expr(1) + " == 2) { stop; }"
	case pick == 11:
		return "if (n * 5 == " + strconv.Itoa(m.Intn(60)) + ") { fail " + m.expr(1) + "; }"
	}
	return "x = " + m.expr(2) + ";"
}

func (m maker) stmts(deep int) string {
	l := make([]string, m.Intn(5))
	for i := range l {
		l[i] = m.stmt(deep)
	}
	return strings.Join(l, " ")
}

func (m maker) shape() api.Shape {
	if m.Intn(2) == 0 {
		return api.Shape{Kind: api.ShapePipe, Items: m.Intn(5), Stages: 1 + m.Intn(4)}
	}
	s := api.Shape{Kind: api.ShapeFor, Lo: int64(m.Intn(9) - 4), Step: int64(1 + m.Intn(3))}
	s.Hi = s.Lo + int64(m.Intn(20)-3)
	if m.Intn(2) == 0 {
		s.Hi, s.Step = 2*s.Lo-s.Hi, -s.Step
	}
	return s
}

// random: a job whose fuel is more than its tasks take, and the trees of its stages.
func (m maker) random(t *testing.T) (api.Job, [][]api.Stmt) {
	t.Helper()
	j := api.Job{Words: 4 + m.Intn(3), Fuel: api.MaxFuel, Shape: m.shape()}
	for at := range j.Words {
		if m.Intn(3) == 0 {
			j.Cells = append(j.Cells, api.Cell{At: at, Value: int64(m.Intn(9) - 2)})
		}
	}
	for range m.Intn(4) {
		j.Reds = append(j.Reds, api.Red{Op: api.RedOp(1 + m.Intn(7)), Init: int64(m.Intn(30) - 15)})
	}
	m.reds = len(j.Reds)
	var trees [][]api.Stmt
	for range max(1, j.Shape.Stages) {
		l, _, e := tree.Parse("var x = i; var y = 0; " + m.stmts(2) + m.stmts(1))
		if e != api.OK {
			t.Fatal(e)
		}
		code, e := gen.Compile(l, m.reds)
		if e != api.OK {
			t.Fatal(e)
		}
		j.Codes, trees = append(j.Codes, code), append(trees, l)
	}
	return j, trees
}

// tasks: the indexes and stages, one task behind the other, by a second way.
func tasks(s api.Shape) [][2]int64 {
	var l [][2]int64
	for item := range int64(s.Items) {
		for stage := range int64(s.Stages) {
			l = append(l, [2]int64{item, stage})
		}
	}
	for i := s.Lo; s.Step > 0 && i < s.Hi || s.Step < 0 && i > s.Hi; i += s.Step {
		l = append(l, [2]int64{i, 0})
	}
	return l
}

// told: what a job means, by its source texts; behind none of its tasks, one of them, and so on.
func told(t *testing.T, j api.Job, trees [][]api.Stmt) []api.Result {
	t.Helper()
	r := api.Result{Mem: make([]int64, j.Words)}
	for _, c := range j.Cells {
		r.Mem[c.At] = c.Value
	}
	for _, x := range j.Reds {
		r.Reds = append(r.Reds, x.Init)
	}
	all := []api.Result{seen(r)}
	for n, task := range tasks(j.Shape) {
		if r.Fault.Over == api.Going {
			x, e := eval.Run(trees[task[1]], len(j.Reds), api.Input{Mem: r.Mem, N: int64(n), I: task[0], K: task[1]}, eval.MaxTicks)
			if e != api.OK {
				t.Fatal(e)
			}
			r = on(j, r, n, x)
		}
		all = append(all, seen(r))
	}
	return all
}

// on: r is joined number by number, without a heap.
func on(j api.Job, r api.Result, n int, x api.Effect) api.Result {
	if x.Over != api.Halted {
		r.Fault = api.Fault{Age: n, Over: x.Over, Value: x.Value}
		return r
	}
	r.Mem, r.Outs, r.Reds, r.Count = x.Mem, slices.Concat(r.Outs, x.Outs), slices.Clone(r.Reds), n+1
	for _, into := range x.Intos {
		r.Reds[into.Cell] = ops()[j.Reds[into.Cell].Op-1].join(r.Reds[into.Cell], into.Value)
	}
	return r
}

// P18.1 to P18.4: jobs at random, held against what their source texts mean
func TestRandomJobs(t *testing.T) {
	m := maker{Rand: rand.New(rand.NewSource(18))}
	var faults, halts, outs int
	for range 2500 {
		j, trees := m.random(t)
		all := told(t, j, trees)
		for many, want := range all {
			wantResult(t, upto(t, j, many), want)
		}
		last := all[len(all)-1]
		wantResult(t, run(t, j), last)
		refused(t, j, len(all), api.ErrAge)
		if begins(t, j, all); t.Failed() {
			t.Fatal(j)
		}
		outs += len(last.Outs)
		if last.Fault.Over == api.Going {
			halts++
		} else {
			faults++
		}
	}
	if faults < 200 || halts < 200 || outs < 2000 {
		t.Error("too few of a kind", faults, halts, outs)
	}
}

// begins: P18.4 of what Upto answers, and what it is of Begin, Task and After.
func begins(t *testing.T, j api.Job, all []api.Result) {
	t.Helper()
	r, was := begun(t, j), api.Result{}
	for many := range all {
		now := upto(t, j, many)
		if len(now.Outs) < len(was.Outs) || !slices.Equal(now.Outs[:len(was.Outs)], was.Outs) {
			t.Error("Outs don't begin with those of fewer", many, was, now)
		}
		if is := now.Fault.Over; is == api.Going && now.Count != many || is != api.Going && (now.Count != now.Fault.Age || now.Count >= many) {
			t.Error("Count", many, now)
		}
		if !Same(now, r) || Same(now, was) != (now.Fault.Over != api.Going && was.Fault.Over != api.Going) {
			t.Error("Same", many, now, r, was)
		}
		if was = now; many+1 < len(all) && now.Fault.Over == api.Going {
			r = after(t, j, r, many, right(t, j, many, r.Mem...))
		}
	}
}
