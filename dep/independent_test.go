package dep

import (
	"math"
	"reflect"
	"slices"
	"strconv"
	"strings"
	"testing"

	"outrider/api"
	"outrider/job"
)

// roomy: a config that stands in no loop's way, unless it has many stores.
func roomy(t *testing.T) api.Config {
	t.Helper()
	c, e := job.ParseConfig("dynamic workers 2 window 4 chunk 1 reads 64 writes 64 outs 64 arena 512 edges 32 retry 2")
	if e != api.OK {
		t.Fatal(e)
	}
	return c
}

func loop(lo, hi, step int64) api.Shape {
	return api.Shape{Kind: api.ShapeFor, Lo: lo, Hi: hi, Step: step}
}

// jobOf: 16 words, fuel enough, and two reductions.
func jobOf(s api.Shape, code []api.Ins) api.Job {
	return api.Job{Words: 16, Reds: []api.Red{{Op: api.RedSum}, {Op: api.RedMax, Init: 3}}, Fuel: api.MaxFuel, Shape: s, Codes: [][]api.Ins{code}}
}

// whole: a job in new memory.
func whole(j api.Job) api.Job {
	j.Cells, j.Reds, j.Codes = append([]api.Cell{}, j.Cells...), append([]api.Red{}, j.Reds...), append([][]api.Ins{}, j.Codes...)
	for i, code := range j.Codes {
		j.Codes[i] = append([]api.Ins{}, code...)
	}
	return j
}

// judged: what Independent answers, twice; it leaves what it is handed.
func judged(t *testing.T, j api.Job, c api.Config) (bool, api.Errno) {
	t.Helper()
	was := whole(j)
	is, e := Independent(j, c)
	if !reflect.DeepEqual(was, whole(j)) {
		t.Fatal("the job that was handed in is changed")
	}
	if again, e2 := Independent(j, c); again != is || e2 != e {
		t.Fatal("asked again it answers otherwise")
	}
	if is && e != api.OK {
		t.Fatal("true beside an error", e)
	}
	return is, e
}

func wantJudged(t *testing.T, j api.Job, c api.Config, want bool) {
	t.Helper()
	if is, e := judged(t, j, c); is != want || e != api.OK {
		t.Errorf("%v with %v: %v %d, not %v", j, c, is, e, want)
	}
}

// wantText: of a source text, for a loop, with a roomy config.
func wantText(t *testing.T, text string, s api.Shape, want bool) {
	t.Helper()
	wantJudged(t, jobOf(s, compiled(t, text)), roomy(t), want)
}

// P19.3: the chapter's examples, and plain ones
func TestIndependent(t *testing.T) {
	for _, x := range []struct {
		text string
		want bool
	}{
		{"m[i] = i * 2;", true},
		{"m[i + 1] = m[i];", false},
		{"m[2 * i] = m[2 * i + 1];", true},
		{"m[i] = m[i + 1];", false},
		{"m[i] = m[i] + 1;", true},
		{"m[i] = 1; m[i] = m[i] + 1; m[i] = 2;", true},
		{"m[i] = 1; m[i + 1] = 1;", false},
		{"m[i] = 1; m[i + 8] = 1;", true},
		{"m[i] = 1; m[15 - i] = 1;", true},
		{"m[i] = 1; m[14 - i] = 1;", true},  // 7 and 7 alone
		{"m[i] = 1; m[13 - i] = 1;", false}, // 6 and 7
		{"m[0] = 1;", false},
		{"m[15] = m[i];", false},
		{"emit m[0];", true},
		{"emit m[0]; m[i + 1] = 2;", true},
		{"emit m[7]; m[i] = 2;", false},
		{"emit m[8]; m[i] = 2;", true},
		{"m[i] = 2; emit m[8]; emit m[i];", true},
		{"into 0 m[3]; into 1 i;", true},
		{"", true},
		{"emit n; emit i; emit k;", true},
		{"m[n] = 1;", false},
		{"m[k] = 1;", false},
		{"emit m[k];", true},
		{"emit m[m[0]];", false},
		{"m[i + m[15]] = 1;", false},
		{"m[i] = m[15] / 2;", true},
		{"m[i] = 2 / m[15];", false},
		{"m[i] = 2 % 0;", false},
		{"if (i) { }", false},
		{"while (0) { }", false},
		{"stop;", true},
		{"fail 1;", false},
		{"m[i & 7] = 1;", false},
		{"m[i * 1] = 1;", true},
		{"m[-(0 - i)] = 1;", true},
	} {
		wantText(t, x.text, loop(0, 8, 1), x.want)
	}
}

// P19.3: steps of other sizes and signs
func TestSteps(t *testing.T) {
	wantText(t, "m[i] = m[i + 1];", loop(0, 15, 2), true)
	wantText(t, "m[i] = m[i + 2];", loop(0, 14, 2), false)
	wantText(t, "m[i] = m[i + 3];", loop(0, 13, 2), true)
	wantText(t, "m[i] = m[i - 1];", loop(15, 0, -2), true)
	wantText(t, "m[i] = m[i - 2];", loop(15, 1, -2), false)
	wantText(t, "m[15 - i] = 3;", loop(15, -1, -1), true)
	wantText(t, "m[i / 1] = 3;", loop(0, 4, 1), false)
	wantText(t, "m[3 * i] = m[3 * i + 1] + m[3 * i + 2];", loop(0, 5, 1), true)
	wantText(t, "m[3 * i] = m[2 * i];", loop(0, 2, 1), true)   // 0 3 and 0 2
	wantText(t, "m[3 * i] = m[2 * i];", loop(0, 4, 1), false)  // 6: 2 and 3
	wantText(t, "m[3 * i] = m[2 * i];", loop(1, 4, 1), false)  // as well
	wantText(t, "m[i + 8] = m[-i];", loop(-7, 1, 1), false)    // 1 of -7 and -1
	wantText(t, "m[i + 8] = m[8 - i];", loop(0, 8, 1), true)   // 8 and 8 of 0 alone
	wantText(t, "m[i + 8] = m[8 - i];", loop(-1, 2, 1), false) // 7 and 9 of -1 and 1
}

// tight: a job and a config that has room for it, and none to spare.
func tight(t *testing.T) (api.Job, api.Config) {
	t.Helper()
	j := jobOf(loop(0, 8, 1), listed(t, "load r3 r1 8; emit r3; store r3 r1 0; halt; load r4 r4 0; emit r1; store r1 r0 0; halt"))
	j.Fuel = 4
	return j, api.Config{Workers: 1, Window: 4, Policy: api.Static, Chunk: 1, Reads: 1, Writes: 1, Outs: 1, Arena: 4, Edges: 1}
}

// with: the tight job with another text of instructions.
func with(t *testing.T, s string, turn func(j *api.Job, c *api.Config)) (api.Job, api.Config) {
	t.Helper()
	j, c := tight(t)
	if s != "" {
		j.Codes[0] = listed(t, s)
	}
	if turn != nil {
		turn(&j, &c)
	}
	return j, c
}

// P19.3: each condition of the room, just kept and just broken, each alone
func TestRoom(t *testing.T) {
	same := func(*api.Job, *api.Config) {}
	const row = "load r3 r1 8; emit r3; store r3 r1 0; halt"
	fuel := func(n int) func(*api.Job, *api.Config) { return func(j *api.Job, _ *api.Config) { j.Fuel = n } }
	for _, x := range []struct {
		text string
		turn func(j *api.Job, c *api.Config)
		want bool
	}{
		{"", same, true},
		{row, same, true},
		{row, fuel(3), false},
		{row, fuel(1), false},
		{row, fuel(5), true},
		{"halt", fuel(1), true},
		{"emit r1; halt", fuel(1), false},
		{"emit r1; halt; emit r1; halt", fuel(2), true},
		{row, func(_ *api.Job, c *api.Config) { c.Force = true }, false},
		{row, func(_ *api.Job, c *api.Config) { c.Arena = 3 }, false},
		{row, func(_ *api.Job, c *api.Config) { c.Arena = 5 }, true},
		{row, func(_ *api.Job, c *api.Config) { c.Window = 5 }, false},
		{row, func(_ *api.Job, c *api.Config) { c.Window = 3 }, true},
		{"load r3 r1 8; halt", func(_ *api.Job, c *api.Config) { c.Window, c.Arena = api.MaxWindow, 1 }, true},
		// more of a kind than there is room for
		{"emit r1; emit r1; halt", same, false},
		{"emit r1; emit r1; halt", func(_ *api.Job, c *api.Config) { c.Outs = 2 }, true},
		{"load r3 r1 8; load r3 r1 0; halt", same, false},
		{"load r3 r1 8; load r3 r1 0; halt", func(_ *api.Job, c *api.Config) { c.Reads = 2 }, true},
		{"load r3 r1 8; load r3 r1 8; halt", same, false}, // loads are counted, not words
		{"store r3 r1 8; store r3 r1 0; halt", func(_ *api.Job, c *api.Config) { c.Arena = 8 }, false},
		{"store r3 r1 8; store r3 r1 0; halt", func(_ *api.Job, c *api.Config) { c.Writes = 2 }, false},
		{"store r3 r1 8; store r3 r1 0; halt", func(_ *api.Job, c *api.Config) { c.Writes, c.Arena = 2, 7 }, false},
		{"store r3 r1 8; store r3 r1 0; halt", func(_ *api.Job, c *api.Config) { c.Writes, c.Arena = 2, 8 }, true},
		{"store r3 r1 8; store r3 r1 8; halt", func(_ *api.Job, c *api.Config) { c.Arena = 8 }, false},
		{"store r3 r1 8; store r3 r1 8; halt", func(_ *api.Job, c *api.Config) { c.Writes, c.Arena = 2, 8 }, true},
		// one kind's room isn't another's
		{"emit r1; halt", func(_ *api.Job, c *api.Config) { c.Outs, c.Reads, c.Writes = 1, 9, 9 }, true},
		{"into r1 0; into r1 1; into r1 0; halt", same, true},
		// what else stands in the config
		{row, func(_ *api.Job, c *api.Config) {
			c.Workers, c.Policy, c.Chunk, c.Edges, c.Retry = 8, api.Guided, 200, 512, 9
		}, true},
	} {
		j, c := with(t, x.text, x.turn)
		wantJudged(t, j, c, x.want)
	}
}

// P19.3: as many of each as there can be room for
func TestMostRoom(t *testing.T) {
	c := roomy(t)
	for kind, most := range map[string]int{"emit r1; ": 64, "load r3 r1 0; ": 64, "store r3 r1 0; ": 64} {
		c.Window, c.Arena = 8, 512
		wantJudged(t, jobOf(loop(0, 8, 1), listed(t, strings.Repeat(kind, most)+"halt")), c, true)
		wantJudged(t, jobOf(loop(0, 8, 1), listed(t, strings.Repeat(kind, most+1)+"halt")), c, false)
		c.Window = 9
		wantJudged(t, jobOf(loop(0, 8, 1), listed(t, strings.Repeat(kind, most)+"halt")), c, kind[0] != 's')
	}
	j := jobOf(loop(0, 8, 1), listed(t, strings.Repeat("neg r3 r1; ", api.MaxCode-1)+"halt"))
	j.Fuel = api.MaxCode
	wantJudged(t, j, c, true)
	j.Fuel--
	wantJudged(t, j, c, false)
	// the product of Window and stores is far above the room, though each may be
	c.Window = api.MaxWindow
	stores := slices.Repeat([]api.Ins{{Kind: api.InsStore, A: 3, B: 1}}, api.MaxCode-1)
	wantJudged(t, jobOf(loop(0, 8, 1), append(stores, api.Ins{Kind: api.InsHalt})), c, false)
}

// P19.3: a pipeline never is, be it as plain as can be
func TestPipeline(t *testing.T) {
	for _, items := range []int{0, 1, 2} {
		for stages := 1; stages <= 2; stages++ {
			j := jobOf(api.Shape{Kind: api.ShapePipe, Items: items, Stages: stages}, listed(t, "halt"))
			if stages == 2 {
				j.Codes = append(j.Codes, listed(t, "halt"))
			}
			wantJudged(t, j, roomy(t), false)
		}
	}
}

// P19.3: Lo, Hi and Step at 2^30 and one further, on both sides
func TestFarLoops(t *testing.T) {
	for _, side := range []int64{1, -1} {
		for _, text := range []string{"halt", "load r3 r3 5; halt"} {
			for _, x := range []struct {
				s    api.Shape
				want bool
			}{
				{loop(side*two30, side*two30, 1), true},
				{loop(side*(two30+1), side*two30, side), false},
				{loop(side*two30, side*(two30+1), -side), false},
				{loop(side*two30, side*(two30-3), -side), true},
				{loop(side*(two30-3), side*two30, side), true},
				{loop(side*(two30-3), side*(two30+1), side), false},
				{loop(side*(two30+1), side*(two30-3), -side), false},
				{loop(0, side*2, side*two30), true},
				{loop(0, side*2, side*(two30+1)), false},
				{loop(0, -side*2, side*two30), true},
				{loop(0, -side*2, side*(two30+1)), false},
				{loop(-side*two30, side*two30, side*two30), true},
				{loop(-side*two30, side*two30, side*(two30+1)), false},
				{loop(math.MaxInt64, math.MaxInt64, 1), false},
				{loop(0, math.MinInt64, 1), false},
				{loop(0, 0, math.MinInt64), false},
			} {
				wantJudged(t, jobOf(x.s, listed(t, text)), roomy(t), x.want)
			}
		}
		// addresses that come back into the memory from there
		l := listed(t, "store r1 r1 "+strconv.FormatInt(-side*two30+8, 10)+"; halt")
		wantJudged(t, jobOf(loop(side*two30, side*(two30-8), -side), l), roomy(t), true)
		l = listed(t, "store r1 r1 "+strconv.FormatInt(-side*(two30+1)+8, 10)+"; halt")
		wantJudged(t, jobOf(loop(side*(two30+1), side*(two30-7), -side), l), roomy(t), false)
	}
}

// P19.3: addresses at the ends of the memory and just beside them, at the first and at the last index
func TestInside(t *testing.T) {
	for _, x := range []struct {
		text string
		s    api.Shape
		want bool
	}{
		{"m[i]", loop(0, 16, 1), true},
		{"m[i]", loop(0, 17, 1), false},
		{"m[i]", loop(-1, 16, 1), false},
		{"m[i]", loop(15, -1, -1), true},
		{"m[i]", loop(16, -1, -1), false},
		{"m[i]", loop(15, -2, -1), false},
		{"m[15 - i]", loop(0, 16, 1), true},
		{"m[14 - i]", loop(0, 16, 1), false},
		{"m[16 - i]", loop(0, 16, 1), false},
		{"m[i + 9]", loop(0, 7, 1), true},
		{"m[i + 9]", loop(0, 8, 1), false},
		{"m[i * 5]", loop(0, 4, 1), true},
		{"m[i * 5]", loop(0, 5, 1), false},
		{"m[i]", loop(0, 20, 5), true}, // the last index is 15
		{"m[i]", loop(0, 21, 5), false},
		{"m[i]", loop(0, 18, 4), false}, // the last index is 16
		{"m[i]", loop(0, 16, 4), true},
		{"m[0]", loop(-3, 100, 1), true},
		{"m[15]", loop(-3, 100, 1), true},
		{"m[16]", loop(0, 1, 1), false},
		{"m[-1]", loop(0, 1, 1), false},
	} {
		wantText(t, "emit "+x.text+";", x.s, x.want)
		wantText(t, x.text+" = i;", x.s, x.want && x.text != "m[0]" && x.text != "m[15]")
		wantText(t, "emit m[3]; emit "+x.text+"; emit m[4];", x.s, x.want)
	}
}

// P19.3: the memory's own size, at its limits
func TestWords(t *testing.T) {
	for _, words := range []int{1, 2, 16, api.MaxWords} {
		j := jobOf(loop(0, int64(words), 1), compiled(t, "m[i] = m[i] + 1;"))
		j.Words = words
		wantJudged(t, j, roomy(t), true)
		j.Shape.Hi++
		wantJudged(t, j, roomy(t), false)
		j.Shape.Lo, j.Shape.Hi = -1, 1
		wantJudged(t, j, roomy(t), false)
	}
}

// P19.3: no task at all, and one
func TestFewTasks(t *testing.T) {
	for _, none := range []api.Shape{loop(0, 0, 1), loop(5, 5, -1), loop(3, 2, 1), loop(2, 3, -1), loop(7, -7, two30)} {
		wantText(t, "m[0] = m[0] + 1;", none, true)
		wantText(t, "m[100] = 1;", none, true) // there is none that would go there
		wantText(t, "m[-1] = m[77];", none, true)
		wantText(t, "m[n] = 1;", none, false)
		wantText(t, "m[0] = m[n];", none, false)
		wantText(t, "fail 1;", none, false)
		wantText(t, "emit 1 / 0;", none, false)
		j := jobOf(none, compiled(t, "m[0] = 1;"))
		j.Fuel = 2
		wantJudged(t, j, roomy(t), false)
	}
	for _, one := range []api.Shape{loop(0, 1, 1), loop(0, 3, 3), loop(0, -1, -1), loop(0, 1, two30)} {
		wantText(t, "m[0] = m[0] + 1;", one, true)
		wantText(t, "m[0] = 1; m[0] = 2; m[1] = m[0];", one, true)
		wantText(t, "m[100] = 1;", one, false)
		wantText(t, "m[-1] = 1;", one, false)
	}
	for _, two := range []api.Shape{loop(0, 2, 1), loop(0, 4, 3), loop(0, -2, -1)} {
		wantText(t, "m[0] = 1;", two, false)
		wantText(t, "m[1] = m[0];", two, false)
		wantText(t, "emit m[0]; emit m[1];", two, true)
	}
	wantText(t, "emit m[0];", loop(0, api.MaxTasks, 1), true)
	wantText(t, "m[0] = 1;", loop(0, api.MaxTasks, 1), false)
}

// P19.3: what is too far for Meet meets, of loops with a task or none
func TestTooFarToMeet(t *testing.T) {
	for _, side := range []int64{1, -1} {
		// one task, whose next index would be so far away
		wantText(t, "m[i] = 1;", loop(0, side, side*two20), true)
		wantText(t, "m[i] = 1;", loop(0, side, side*(two20+1)), false)
		wantText(t, "m[2 * i] = 1;", loop(0, side, side*two20/2), true)
		wantText(t, "m[2 * i] = 1;", loop(0, side, side*(two20/2+1)), false)
		wantText(t, "emit m[i];", loop(0, side, side*(two20+1)), true) // a load with loads doesn't matter
		wantText(t, "m[3] = m[i];", loop(0, side, side*(two20+1)), false)
		wantText(t, "m[i] = m[3];", loop(0, side, side*(two20+1)), false)
		// no task: the loop's first number is Lo
		wantText(t, "m[i] = 1;", loop(side*two20, side*two20, 1), true)
		wantText(t, "m[i] = 1;", loop(side*(two20+1), side*(two20+1), 1), false)
		wantText(t, "emit m[i];", loop(side*(two20+1), side*(two20+1), 1), true)
		wantText(t, "m[i - "+strconv.FormatInt(side*two20+side, 10)+"] = 1;", loop(side*(two20+1), side*(two20+1), 1), true)
		wantText(t, "m["+strconv.FormatInt(side*two20, 10)+"] = 1;", loop(0, 0, 1), true)
		wantText(t, "m["+strconv.FormatInt(side*two20+side, 10)+"] = 1;", loop(0, 0, 1), false)
		wantText(t, "m[i] = 1;", loop(0, 0, side*two20), true)
		wantText(t, "m[i] = 1;", loop(0, 0, side*(two20+1)), false)
		wantText(t, "m[i] = 1;", loop(0, 0, side*two30), false)
	}
}

// P19.3: numbers of addresses that are as great as they may be, without going round
func TestGreatAddresses(t *testing.T) {
	// 2^30 times the index, and 2^60 less: within the memory at the index 2^30 alone
	for _, side := range []int64{1, -1} {
		l := append(making(5, known(two30, -side*two60)), api.Ins{Kind: api.InsStore, A: 3, B: 5}, api.Ins{Kind: api.InsHalt})
		wantJudged(t, jobOf(loop(side*two30, side*(two30-1), -side), l), roomy(t), false) // its next one is too far for Meet
		l[len(l)-2].Kind = api.InsLoad
		wantJudged(t, jobOf(loop(side*two30, side*(two30-1), -side), l), roomy(t), true)
		wantJudged(t, jobOf(loop(side*two30, side*(two30-2), -side), l), roomy(t), false)
		wantJudged(t, jobOf(loop(side*two30, side*two30, -side*two30), l), roomy(t), true)
		wantJudged(t, jobOf(loop(side*(two30-1), side*two30, side), l), roomy(t), false)
		wantJudged(t, jobOf(loop(-side*two30, -side*two30+1, 1), l), roomy(t), false)
	}
	// addresses that would be within it, if words were of fewer bits
	for _, k := range []int64{1 << 32, -1 << 32, 1 << 59, two60} {
		wantJudged(t, jobOf(loop(0, 1, 1), []api.Ins{{Kind: api.InsLoad, A: 3, B: 1, K: k}, {Kind: api.InsHalt}}), roomy(t), false)
	}
}

// P19.3: an address isn't known whose K isn't kept, though each task would go to a word that there is
func TestFarKIsNotKnown(t *testing.T) {
	for _, kind := range []api.InsKind{api.InsLoad, api.InsStore} {
		for _, side := range []int64{1, -1} {
			for _, over := range []int64{0, 1, 5} {
				l := append(making(5, known(1, over-side*two60)), api.Ins{Kind: kind, A: 3, B: 5, K: side * two60}, api.Ins{Kind: api.InsHalt})
				wantJudged(t, jobOf(loop(0, 8, 1), l), roomy(t), over == 0 || side > 0)
				l = append(making(5, known(1, -side*two60)), api.Ins{Kind: kind, A: 3, B: 5, K: side*two60 + over}, api.Ins{Kind: api.InsHalt})
				wantJudged(t, jobOf(loop(0, 8, 1), l), roomy(t), over == 0 || side < 0)
			}
		}
	}
}

// broken: a job with each of its faults, in Valid's order, and the error of the first one.
func broken(t *testing.T) []struct {
	turn func(j *api.Job)
	no   api.Errno
} {
	t.Helper()
	return []struct {
		turn func(j *api.Job)
		no   api.Errno
	}{
		{func(j *api.Job) { j.Words = 0 }, api.ErrWords},
		{func(j *api.Job) { j.Cells = []api.Cell{{At: 16}} }, api.ErrAddr},
		{func(j *api.Job) { j.Cells = []api.Cell{{At: 1}, {At: 1}} }, api.ErrTwice},
		{func(j *api.Job) { j.Reds = make([]api.Red, api.MaxReds+1) }, api.ErrReds},
		{func(j *api.Job) { j.Reds = []api.Red{{}} }, api.ErrRed},
		{func(j *api.Job) { j.Fuel = 0 }, api.ErrFuel},
		{func(j *api.Job) { j.Shape.Kind = 0 }, api.ErrShape},
		{func(j *api.Job) { j.Shape.Items = 1 }, api.ErrShape},
		{func(j *api.Job) { j.Shape.Step = 0 }, api.ErrStep},
		{func(j *api.Job) { j.Shape.Hi = api.MaxTasks + 1 }, api.ErrTasks},
		{func(j *api.Job) { j.Codes = nil }, api.ErrCodes},
		{func(j *api.Job) { j.Codes = append(j.Codes, j.Codes[0]) }, api.ErrCodes},
		{func(j *api.Job) { j.Codes = [][]api.Ins{nil} }, api.ErrLen},
		{func(j *api.Job) { j.Codes = [][]api.Ins{{{}}} }, api.ErrOp},
		{func(j *api.Job) { j.Codes = [][]api.Ins{{{Kind: api.InsEmit, A: 16}}} }, api.ErrReg},
		{func(j *api.Job) { j.Codes = [][]api.Ins{{{Kind: api.InsHalt, A: 1}}} }, api.ErrUnused},
		{func(j *api.Job) { j.Codes = [][]api.Ins{{{Kind: api.InsHalt}, {Kind: api.InsInto, A: 1, C: 2}}} }, api.ErrCell},
		{func(j *api.Job) { j.Codes = [][]api.Ins{{{Kind: api.InsJump, K: 1}}} }, api.ErrTarget},
		{func(j *api.Job) { j.Codes = [][]api.Ins{{{Kind: api.InsHalt}, {Kind: api.InsEmit}}} }, api.ErrFall},
	}
}

// wrong: configs that may not be.
func wrong() []struct {
	turn func(c *api.Config)
	no   api.Errno
} {
	return []struct {
		turn func(c *api.Config)
		no   api.Errno
	}{
		{func(c *api.Config) { c.Workers = 0 }, api.ErrWorkers},
		{func(c *api.Config) { c.Workers = api.MaxWorkers + 1 }, api.ErrWorkers},
		{func(c *api.Config) { c.Policy = 0 }, api.ErrPolicy},
		{func(c *api.Config) { c.Policy = api.Guided + 1 }, api.ErrPolicy},
		{func(c *api.Config) { c.Chunk = 0 }, api.ErrSize},
		{func(c *api.Config) { c.Window = api.MaxWindow + 1 }, api.ErrConfig},
		{func(c *api.Config) { c.Reads = 0 }, api.ErrConfig},
		{func(c *api.Config) { c.Writes = api.MaxLog + 1 }, api.ErrConfig},
		{func(c *api.Config) { c.Outs = -1 }, api.ErrConfig},
		{func(c *api.Config) { c.Arena = math.MaxInt }, api.ErrConfig},
		{func(c *api.Config) { c.Edges = math.MinInt }, api.ErrConfig},
		{func(c *api.Config) { c.Retry = api.MaxRetry + 1 }, api.ErrConfig},
	}
}

func wantError(t *testing.T, j api.Job, c api.Config, no api.Errno) {
	t.Helper()
	if is, e := judged(t, j, c); is || e != no {
		t.Errorf("%v with %v: %v %d, not %d", j, c, is, e, no)
	}
}

// P19.3: each error of the job and of the config, and which is told first
func TestErrors(t *testing.T) {
	for _, bad := range broken(t) {
		j, c := tight(t)
		bad.turn(&j)
		wantError(t, j, c, bad.no)
		c.Force = true
		wantError(t, j, c, bad.no)
		for _, worse := range wrong() {
			_, c := tight(t)
			worse.turn(&c)
			wantError(t, j, c, bad.no)
		}
		wantError(t, j, api.Config{}, bad.no)
	}
	for _, bad := range wrong() {
		j, c := tight(t)
		bad.turn(&c)
		wantError(t, j, c, bad.no)
		c.Force = true
		wantError(t, j, c, bad.no)
		// also of jobs that would not be
		j.Shape = loop(0, 8, two30+1)
		wantError(t, j, c, bad.no)
		j.Shape, j.Codes = api.Shape{Kind: api.ShapePipe, Items: 1, Stages: 1}, [][]api.Ins{listed(t, "fail r1")}
		wantError(t, j, c, bad.no)
	}
	wantError(t, api.Job{}, api.Config{}, api.ErrWords)
	// two of the job's errors, or of the config's: that which layer 17 names first
	all := broken(t)
	for i := range all[:10] {
		j, c := tight(t)
		all[10].turn(&j)
		all[i].turn(&j)
		wantError(t, j, c, all[i].no)
	}
	j, c := tight(t)
	c.Workers, c.Policy, c.Chunk, c.Window = 0, 0, 0, 0
	wantError(t, j, c, api.ErrWorkers)
	c.Workers = 1
	wantError(t, j, c, api.ErrPolicy)
	c.Policy = api.Dynamic
	wantError(t, j, c, api.ErrSize)
	c.Chunk = 1
	wantError(t, j, c, api.ErrConfig)
}
