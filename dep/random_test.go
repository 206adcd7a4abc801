package dep

import (
	"math"
	"math/big"
	"math/rand"
	"slices"
	"strconv"
	"strings"
	"testing"

	"outrider/api"
	"outrider/fold"
	"outrider/ins"
	"outrider/job"
	"outrider/num"
)

// bigOne: what comes of one form, by numbers that don't go round.
func bigOne(op api.Op, f Form) Form {
	switch {
	case !f.Known:
		return Form{}
	case f.A == 0:
		n, _ := num.One(op, f.C)
		return wide(new(big.Int), big.NewInt(n))
	case op == api.OpNeg:
		return known(-f.A, -f.C)
	}
	return Form{}
}

// bigAccesses: Accesses by a second way, of instructions that may be.
func bigAccesses(l []api.Ins) ([]Access, bool) {
	now := first()
	var all []Access
	for _, x := range l {
		goesOn := true
		switch x.Kind {
		case api.InsHalt:
			return all, true
		case api.InsConst:
			now[x.A] = wide(new(big.Int), big.NewInt(x.K))
		case api.InsMove:
			now[x.A] = now[x.B]
		case api.InsOne:
			now[x.A] = bigOne(x.Op, now[x.B])
		case api.InsTwo:
			now[x.A], goesOn = bigTwo(x.Op, now[x.B], now[x.C])
		case api.InsLoad, api.InsStore:
			to, _ := bigTwo(api.OpAdd, now[x.B], wide(new(big.Int), big.NewInt(x.K)))
			all = append(all, Access{Store: x.Kind == api.InsStore, To: to})
			if x.Kind == api.InsLoad {
				now[x.A] = Form{}
			}
		case api.InsJump, api.InsZero, api.InsOther, api.InsFail:
			goesOn = false
		}
		if !goesOn {
			return nil, false
		}
	}
	return nil, false
}

// maker makes instructions, source texts and jobs at random.
type maker struct{ *rand.Rand }

func (m maker) number() int64 {
	switch m.Intn(10) {
	case 0:
		return []int64{two30, -two30, two30 + 1, -two30 - 1, 1 << 15, 1 << 45}[m.Intn(6)]
	case 1:
		return []int64{two60, -two60, two60 + 1, -two60 - 1, math.MaxInt64, math.MinInt64}[m.Intn(6)]
	}
	return m.Int63n(19) - 9
}

func (m maker) ins(long int) api.Ins {
	a, b, c := m.Intn(6), m.Intn(6), m.Intn(6)
	switch m.Intn(24) {
	case 0, 1, 2, 3:
		return api.Ins{Kind: api.InsConst, A: a, K: m.number()}
	case 4, 5:
		return api.Ins{Kind: api.InsMove, A: a, B: b}
	case 6, 7:
		return api.Ins{Kind: api.InsOne, Op: api.OpNeg + api.Op(m.Intn(3)), A: a, B: b}
	case 8, 9, 10, 11, 12, 13:
		return api.Ins{Kind: api.InsTwo, Op: api.OpAdd + api.Op(m.Intn(3)), A: a, B: b, C: c}
	case 14, 15:
		return api.Ins{Kind: api.InsTwo, Op: api.OpAdd + api.Op(m.Intn(18)), A: a, B: b, C: c}
	case 16, 17:
		return api.Ins{Kind: api.InsLoad, A: a, B: b, K: m.number()}
	case 18, 19, 20:
		return api.Ins{Kind: api.InsStore, A: a, B: b, K: m.number()}
	case 21:
		return api.Ins{Kind: api.InsInto, A: a, C: m.Intn(reds)}
	case 22:
		return api.Ins{Kind: api.InsEmit, A: a}
	}
	if m.Intn(4) > 0 {
		return api.Ins{Kind: api.InsHalt}
	}
	return []api.Ins{{Kind: api.InsJump, K: m.Int63n(int64(long))}, {Kind: api.InsZero, A: a, K: m.Int63n(int64(long))}, {Kind: api.InsOther, A: a, K: m.Int63n(int64(long))}, {Kind: api.InsFail, A: a}}[m.Intn(4)]
}

// gone: instructions that stand in a row are done; what is read and written goes by these two.
func gone(l []api.Ins, age int, index int64, read func(at int64) int64, write func(at, value int64)) {
	regs := [api.Regs]int64{int64(age), index}
	for _, x := range l {
		switch x.Kind {
		case api.InsHalt:
			return
		case api.InsConst:
			regs[x.A] = x.K
		case api.InsMove:
			regs[x.A] = regs[x.B]
		case api.InsOne:
			regs[x.A], _ = num.One(x.Op, regs[x.B])
		case api.InsTwo:
			regs[x.A], _ = num.Two(x.Op, regs[x.B], regs[x.C])
		case api.InsLoad:
			regs[x.A] = read(regs[x.B] + x.K)
		case api.InsStore:
			write(regs[x.B]+x.K, regs[x.A])
		}
	}
}

// goneTo: where loads and stores go, with an age and words that are read at random.
func (m maker) goneTo(l []api.Ins, index int64) []int64 {
	var all []int64
	read := func(at int64) int64 {
		all = append(all, at)
		return m.number()
	}
	gone(l, m.Intn(api.MaxTasks), index, read, func(at, _ int64) { all = append(all, at) })
	return all
}

// P19.1: instructions at random, by a second way, and held against where they really go
func TestRandomAccesses(t *testing.T) {
	m := maker{rand.New(rand.NewSource(191))}
	var told, not, knowns, unknowns int
	for range 60000 {
		l := make([]api.Ins, 1+m.Intn(14))
		for at := range l {
			l[at] = m.ins(len(l))
		}
		if m.Intn(20) > 0 {
			l = append(l, api.Ins{Kind: api.InsHalt})
		}
		want, is := bigAccesses(l)
		if _, e := ins.Check(l, reds); e != api.OK {
			want, is = nil, false
		}
		got, ok := asked(t, l, reds)
		if ok != is || !slices.Equal(got, want) {
			t.Fatalf("%v: %v %v, not %v %v", l, got, ok, want, is)
		}
		if !ok {
			not++
			continue
		}
		told++
		for _, index := range []int64{-two30, -3, 0, 1, 2, 77, two30} {
			for k, to := range m.goneTo(l, index) {
				switch f := got[k].To; {
				case !f.Known:
					unknowns++
				case f.A*index+f.C != to:
					t.Fatalf("%v at %d: %v goes to %d", l, index, got[k], to)
				default:
					knowns++
				}
			}
		}
	}
	if told < 5000 || not < 5000 || knowns < 5000 || unknowns < 5000 {
		t.Error("too few of a kind", told, not, knowns, unknowns)
	}
}

// place: an address, mostly within a small memory.
func (m maker) place() string {
	c := strconv.Itoa(m.Intn(8))
	switch m.Intn(14) {
	case 0, 1, 2:
		return "i"
	case 3, 4:
		return "i + " + c
	case 5:
		return c + " - i"
	case 6, 7:
		return "2 * i + " + c
	case 8:
		return "i * 3 + " + c
	case 9, 10:
		return "24 + " + c
	case 11:
		return "x"
	case 12:
		return "12 + i"
	}
	return []string{"n", "m[" + c + "]", "i & 7", c, "k"}[m.Intn(5)]
}

func (m maker) expr(deep int) string {
	if deep == 0 || m.Intn(3) == 0 {
		return []string{"n", "i", "k", "x", strconv.Itoa(m.Intn(6)), "m[" + m.place() + "]"}[m.Intn(6)]
	}
	if m.Intn(8) == 0 {
		return m.expr(deep-1) + []string{" / ", " % "}[m.Intn(2)] + []string{"1", "2", "3", "(3 - k)", "i", "0"}[m.Intn(6)]
	}
	return "(" + m.expr(deep-1) + []string{" + ", " - ", " * ", " ^ ", " < "}[m.Intn(5)] + m.expr(deep-1) + ")"
}

func (m maker) stmt() string {
	switch m.Intn(16) {
	case 0, 1, 2, 3, 4, 5, 6:
		return "m[" + m.place() + "] = " + m.expr(2) + ";"
	case 7, 8, 9:
		return "emit " + m.expr(1) + ";"
	case 10, 11:
		return "into " + strconv.Itoa(m.Intn(reds)) + " " + m.expr(1) + ";"
	case 12, 13, 14:
		return "x = " + m.place() + ";"
	}
	return []string{"stop;", "fail i;", "if (i == 3) { m[1] = 2; }", "x = m[i];"}[m.Intn(4)]
}

// random: a job and a config, both small.
func (m maker) random(t *testing.T) (api.Job, api.Config) {
	t.Helper()
	text := "var x = 0;"
	for range m.Intn(4) {
		text += " " + m.stmt()
	}
	lo, step := m.Int63n(5)-1, []int64{1, 1, 1, 2, 3, -1, -2}[m.Intn(7)]
	way := step * m.Int63n(8)
	if step < 0 { // downwards to where the others begin
		lo -= way
	}
	hi := lo + way - m.Int63n(2)
	j := jobOf(loop(lo, hi, step), compiled(t, text))
	j.Words = 24 + m.Intn(9)
	j.Fuel = 3 + m.Intn(60)
	for at := range j.Words {
		j.Cells = append(j.Cells, api.Cell{At: at, Value: m.Int63n(9) - 2})
	}
	c := api.Config{Workers: 2, Window: 1 + m.Intn(6), Policy: api.Dynamic, Chunk: 1, Reads: 1 + m.Intn(6), Writes: 1 + m.Intn(3), Outs: 1 + m.Intn(3), Arena: 2 + m.Intn(12), Edges: 4}
	c.Force = m.Intn(30) == 0
	return j, c
}

// indexes: those of a loop, by a second way.
func indexes(s api.Shape) []int64 {
	var l []int64
	for i := s.Lo; s.Step > 0 && i < s.Hi || s.Step < 0 && i > s.Hi; i += s.Step {
		l = append(l, i)
	}
	return l
}

// clash: does a word that one of the tasks stores belong to another one's, too? Or is one outside?
func clash(j api.Job, l []Access) bool {
	all := indexes(j.Shape)
	for p, i := range all {
		for _, x := range l {
			to := x.To.A*i + x.To.C
			if to < 0 || to >= int64(j.Words) {
				return true
			}
			for q, k := range all {
				for _, y := range l {
					if p != q && x.Store && to == y.To.A*k+y.To.C {
						return true
					}
				}
			}
		}
	}
	return false
}

// byTrying: Independent by a second way, of small jobs: by going through all tasks.
func byTrying(j api.Job, c api.Config) bool {
	l, ok := bigAccesses(j.Codes[0])
	if !ok || c.Force || slices.ContainsFunc(l, func(x Access) bool { return !x.To.Known }) {
		return false
	}
	var steps, emits, stores int
	for _, x := range j.Codes[0] {
		steps++
		if x.Kind == api.InsHalt {
			break
		}
		if x.Kind == api.InsEmit {
			emits++
		}
	}
	for _, x := range l {
		if x.Store {
			stores++
		}
	}
	loads := len(l) - stores
	return steps <= j.Fuel && emits <= c.Outs && loads <= c.Reads && stores <= c.Writes && c.Window*stores <= c.Arena && !clash(j, l)
}

// touched: which words a task's instructions load and store, on a memory.
func touched(j api.Job, age int, index int64, words []int64) (loads, stores map[int64]int) {
	loads, stores = map[int64]int{}, map[int64]int{}
	mem := slices.Clone(words)
	read := func(at int64) int64 {
		loads[at]++
		return mem[at]
	}
	write := func(at, value int64) {
		stores[at]++
		mem[at] = value
	}
	gone(j.Codes[0], age, index, read, write)
	return loads, stores
}

// aloneAsInTurn: P19.4, and that each task does on the first memory what it does in its turn.
func aloneAsInTurn(t *testing.T, j api.Job) {
	t.Helper()
	r, e := fold.Begin(j)
	if e != api.OK {
		t.Fatal(e)
	}
	start, all := slices.Clone(r.Mem), indexes(j.Shape)
	owner := map[int64]int{} // who stores a word
	together := slices.Clone(start)
	for age, index := range all {
		alone, _ := fold.Task(j, age, start)
		turn, _ := fold.Task(j, age, r.Mem)
		if alone.Over != api.Halted || turn.Over != api.Halted {
			t.Fatal("an error", j, age, alone, turn)
		}
		if alone.Ticks != turn.Ticks || !slices.Equal(alone.Outs, turn.Outs) || !slices.Equal(alone.Intos, turn.Intos) {
			t.Fatal("it does something else in its turn", j, age, alone, turn)
		}
		_, stores := touched(j, age, index, start)
		for at := range stores {
			if was, is := owner[at]; is {
				t.Fatal("two store a word", j, at, was, age)
			}
			owner[at] = age
			if alone.Mem[at] != turn.Mem[at] {
				t.Fatal("it stores something else in its turn", j, at, age)
			}
			together[at] = alone.Mem[at]
		}
		r = fold.After(j, r, age, turn)
	}
	for age, index := range all {
		loads, _ := touched(j, age, index, start)
		for at := range loads {
			if by, is := owner[at]; is && by != age {
				t.Fatal("one loads what another one stores", j, at, age, by)
			}
		}
	}
	if last, e := fold.Run(j); e != api.OK || last.Fault.Over != api.Going || last.Count != len(all) || !slices.Equal(last.Mem, together) {
		t.Fatal("what is left in the end", j, last, together)
	}
}

// P19.3, P19.4: jobs at random, by a second way, and held against what they do
func TestRandomJobs(t *testing.T) {
	m := maker{rand.New(rand.NewSource(192))}
	var yes, no, busy int
	for range 40000 {
		j, c := m.random(t)
		want := byTrying(j, c)
		wantJudged(t, j, c, want)
		if t.Failed() {
			text, _ := job.Text(j)
			t.Fatal(strings.ReplaceAll(text, "\n", "; "), c)
		}
		if !want {
			no++
			continue
		}
		yes++
		if l, _ := Accesses(j.Codes[0], reds); len(l) > 1 && len(indexes(j.Shape)) > 1 && slices.ContainsFunc(l, func(x Access) bool { return x.Store }) {
			busy++
		}
		aloneAsInTurn(t, j)
	}
	if yes < 3000 || no < 3000 || busy < 500 {
		t.Error("too few of a kind", yes, no, busy)
	}
}

// P19.4: the examples that are Independent, far loops among them, do alone what they do in their turn
func TestWhatFollows(t *testing.T) {
	for _, j := range []api.Job{
		jobOf(loop(0, 8, 1), compiled(t, "m[i] = i * 2;")),
		jobOf(loop(0, 8, 1), compiled(t, "m[2 * i] = m[2 * i + 1];")),
		jobOf(loop(0, 16, 1), compiled(t, "m[i] = m[i] + n; emit m[i]; into 0 m[i];")),
		jobOf(loop(0, 16, 1), compiled(t, "emit m[0]; into 1 m[15] / 3;")),
		jobOf(loop(two30, two30-8, -1), compiled(t, "m["+strconv.Itoa(two30)+" - i] = m["+strconv.Itoa(two30)+" - i] - i;")),
		jobOf(loop(-two30, 8-two30, 1), compiled(t, "m[i + "+strconv.Itoa(two30)+"] = i;")),
		jobOf(loop(0, 1, two30), compiled(t, "m[3] = m[3] + 1;")),
		jobOf(loop(0, 0, 1), compiled(t, "m[77] = 1;")),
	} {
		j.Cells = []api.Cell{{At: 0, Value: 4}, {At: 3, Value: -9}, {At: 15, Value: 70}}
		wantJudged(t, j, roomy(t), true)
		aloneAsInTurn(t, j)
	}
}
