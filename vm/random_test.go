package vm

import (
	"math/rand"
	"slices"
	"strconv"
	"strings"
	"testing"

	"outrider/api"
	"outrider/eval"
	"outrider/gen"
	"outrider/num"
	"outrider/tree"
)

// reference is a second way to do instructions: it keeps its registers by names, and makes a whole line of States at once, each with what is wanted there.
type reference struct {
	code        []api.Ins
	words, fuel int
	regs        map[int]int64
	line        []moment
}

type moment struct {
	s    State
	want api.Want
	got  int64 // what the step behind it gets
}

func (r *reference) state(at, many int, over api.Over, value int64) State {
	s := State{At: at, Steps: many, Over: over, Value: value}
	for n, value := range r.regs {
		s.Regs[n] = value
	}
	return s
}

// wants: by what the instruction is, not asking whether one is done.
func (r *reference) wants(x api.Ins) api.Want {
	at := r.regs[x.B] + x.K
	inside := at >= 0 && at <= int64(r.words-1)
	switch {
	case x.Kind == api.InsLoad && inside:
		return api.Want{Kind: api.WantLoad, At: int(at)}
	case x.Kind == api.InsStore && inside:
		return api.Want{Kind: api.WantStore, At: int(at), Value: r.regs[x.A]}
	case x.Kind == api.InsInto:
		return api.Want{Kind: api.WantInto, At: x.C, Value: r.regs[x.A]}
	case x.Kind == api.InsEmit:
		return api.Want{Kind: api.WantEmit, Value: r.regs[x.A]}
	}
	return api.Want{}
}

// gives: the number that A gets, and whether it gets one.
func (r *reference) gives(x api.Ins, got int64) (int64, bool) {
	switch x.Kind {
	case api.InsConst:
		return x.K, true
	case api.InsMove:
		return r.regs[x.B], true
	case api.InsOne:
		return num.One(x.Op, r.regs[x.B])
	case api.InsTwo:
		return num.Two(x.Op, r.regs[x.B], r.regs[x.C])
	case api.InsLoad:
		return got, r.wants(x).Kind == api.WantLoad
	}
	return 0, false
}

// over: how an instruction ends a machine.
func (r *reference) over(x api.Ins) (api.Over, int64) {
	_, gives := r.gives(x, 0)
	none := r.wants(x).Kind == api.WantNone
	switch {
	case x.Kind == api.InsHalt:
		return api.Halted, 0
	case x.Kind == api.InsFail:
		return api.Failed, r.regs[x.A]
	case x.Kind == api.InsTwo && !gives:
		return api.Divided, 0
	case (x.Kind == api.InsLoad || x.Kind == api.InsStore) && none:
		return api.Outside, r.regs[x.B] + x.K
	}
	return api.Going, 0
}

// run: all States from the first on, with what the world gives.
func (r *reference) run(meet func(api.Want) int64) []moment {
	for at, many := 0, 0; ; many++ {
		if many == r.fuel {
			return append(r.line, moment{s: r.state(at, many, 0, 0)}, moment{s: r.state(at, many, api.Spent, 0)})
		}
		x := r.code[at]
		want := r.wants(x)
		m := moment{r.state(at, many, 0, 0), want, meet(want)}
		r.line = append(r.line, m)
		if over, value := r.over(x); over != api.Going {
			return append(r.line, moment{s: r.state(at, many+1, over, value)})
		}
		if n, gives := r.gives(x, m.got); gives {
			r.regs[x.A] = n
		}
		at++
		if x.Kind == api.InsJump || x.Kind == api.InsZero && r.regs[x.A] == 0 || x.Kind == api.InsOther && r.regs[x.A] != 0 {
			at = int(x.K)
		}
	}
}

// anyIns: an instruction that may be in a text so long, with few registers, so that they meet.
func anyIns(r *rand.Rand, long int) api.Ins {
	a, b, c := r.Intn(5), r.Intn(5), r.Intn(5)
	switch kind := api.InsKind(2 + r.Intn(12)); kind {
	case api.InsConst:
		return api.Ins{Kind: kind, A: a, K: anyWord(r)}
	case api.InsMove:
		return api.Ins{Kind: kind, A: a, B: b}
	case api.InsOne:
		return api.Ins{Kind: kind, Op: api.OpNeg + api.Op(r.Intn(3)), A: a, B: b}
	case api.InsTwo:
		if r.Intn(8) == 0 {
			return api.Ins{Kind: kind, Op: api.OpDiv + api.Op(r.Intn(2)), A: a, B: b, C: 2 + c}
		}
		return api.Ins{Kind: kind, Op: api.OpAdd + api.Op(r.Intn(18)), A: a, B: b, C: c}
	case api.InsLoad, api.InsStore:
		if r.Intn(8) == 0 {
			return api.Ins{Kind: kind, A: a, B: b, K: anyWord(r)}
		}
		return api.Ins{Kind: kind, A: a, B: 10 + b, K: int64(r.Intn(7)) - int64(r.Intn(15)/14)} // registers that stay 0, so that most are inside
	case api.InsInto:
		return api.Ins{Kind: kind, A: a, C: r.Intn(4)}
	case api.InsJump:
		return api.Ins{Kind: kind, K: int64(r.Intn(long))}
	case api.InsZero, api.InsOther:
		return api.Ins{Kind: kind, A: a, K: int64(r.Intn(long))}
	case api.InsFail:
		if r.Intn(3) > 0 {
			return api.Ins{Kind: api.InsEmit, A: a}
		}
		return api.Ins{Kind: kind, A: a}
	default:
		return api.Ins{Kind: kind, A: a}
	}
}

func anyWord(r *rand.Rand) int64 {
	return int64(r.Uint64()) >> r.Intn(64)
}

func anyCode(r *rand.Rand) []api.Ins {
	code := make([]api.Ins, 1+r.Intn(14))
	for i := range code {
		code[i] = anyIns(r, len(code))
	}
	code[len(code)-1] = []api.Ins{{Kind: api.InsHalt}, {Kind: api.InsJump}, {Kind: api.InsFail, A: 2}}[r.Intn(3)]
	return code
}

func anyInput(r *rand.Rand, many int) api.Input {
	in := api.Input{Mem: make([]int64, many), N: anyWord(r), I: anyWord(r), K: anyWord(r)}
	for i := range in.Mem {
		in.Mem[i] = anyWord(r)
	}
	return in
}

// noting: a world of its own, which notes what it is asked.
func noting(in api.Input, x *api.Effect) func(api.Want) int64 {
	x.Mem = slices.Clone(in.Mem)
	return func(w api.Want) int64 {
		switch w.Kind {
		case api.WantStore:
			x.Mem[w.At] = w.Value
		case api.WantInto:
			x.Intos = append(x.Intos, api.Into{Cell: w.At, Value: w.Value})
		case api.WantEmit:
			x.Outs = append(x.Outs, w.Value)
		case api.WantLoad:
			return x.Mem[w.At]
		}
		return 4444 // which nobody may take up
	}
}

// follows: a machine goes on as the line says.
func follows(t *testing.T, v *VM, line []moment) {
	t.Helper()
	for i, m := range line {
		if v.Now() != m.s || v.Want() != m.want {
			t.Fatalf("%+v wants %+v, not %+v and %+v", v.Now(), v.Want(), m.s, m.want)
		}
		if last := i == len(line)-1; v.Step(m.got) == last {
			t.Fatalf("%+v: a step is %v", m.s, !last)
		}
	}
	is(t, v, line[len(line)-1].s)
}

// P11.2 to P11.5: texts at random, step by step and as a whole, from each State on, and with each fuel
func TestRandom(t *testing.T) {
	seen := map[api.Over]int{}
	for round := range 6000 {
		r := rand.New(rand.NewSource(int64(round)))
		code, in, fuel := anyCode(r), anyInput(r, 1+r.Intn(7)), 1+r.Intn(40)
		var want api.Effect
		second := &reference{code: code, words: len(in.Mem), fuel: fuel, regs: map[int]int64{0: in.N, 1: in.I, 2: in.K}}
		line := second.run(noting(in, &want))
		last := line[len(line)-1].s
		want.Over, want.Value, want.Ticks = last.Over, last.Value, last.Steps
		seen[want.Over]++

		x, e := ran(t, code, 4, fuel, in)
		if e != api.OK || !same(x, want) {
			t.Fatalf("%d: %+v %d, not %+v", round, x, e, want)
		}
		v, e := New(code, 4, len(in.Mem), fuel, in.N, in.I, in.K)
		if e != api.OK {
			t.Fatal(round, e)
		}
		follows(t, v, line)
		v.Reset()
		follows(t, v, line)
		for i := range line {
			if !v.Set(line[i].s) {
				t.Fatalf("%d: %+v is refused", round, line[i].s)
			}
			follows(t, v, line[i:])
		}
		withMore(t, code, in, x, fuel)
	}
	for over := api.Halted; over <= api.Spent; over++ {
		if seen[over] < 200 {
			t.Error("too few:", seen)
		}
	}
}

// withMore, P11.5: one that has ended otherwise than Spent ends so with each greater fuel, and with as many as it took; with one less it is Spent.
func withMore(t *testing.T, code []api.Ins, in api.Input, x api.Effect, fuel int) {
	t.Helper()
	if x.Over == api.Spent {
		return
	}
	for _, more := range []int{x.Ticks, x.Ticks + 1, fuel, fuel + 1, fuel + 2, 100, 3999, 4000} {
		if y, e := Run(code, 4, more, in); e != api.OK || !same(x, y) {
			t.Fatalf("with %d: %+v %d, not %+v", more, y, e, x)
		}
	}
	if less := x.Ticks - 1; less > 0 {
		if y, e := Run(code, 4, less, in); e != api.OK || y.Over != api.Spent || y.Value != 0 || y.Ticks != less {
			t.Fatalf("with %d: %+v %d", less, y, e)
		}
	}
}

// P11.5: each fuel that there is
func TestEachFuel(t *testing.T) {
	for _, c := range []struct {
		last string
		over api.Over
	}{{"halt", api.Halted}, {"fail r1", api.Failed}, {"div r1 r1 r9\nhalt", api.Divided}, {"store r1 r9 -1\nhalt", api.Outside}} {
		code := listed(t, "const r3 400\nconst r4 1\nl2:\nsub r3 r3 r4\nstore r3 r9 0\nother r3 l2\n"+c.last)
		in := api.Input{Mem: []int64{5}, I: 6}
		whole, e := Run(code, 0, 4000, in)
		if e != api.OK || whole.Over != c.over || whole.Ticks != 1203 {
			t.Fatal(whole, e)
		}
		for fuel := 1; fuel <= 4000; fuel++ {
			x, e := Run(code, 0, fuel, in)
			if fuel < 1203 && (x.Over != api.Spent || x.Ticks != fuel) || fuel >= 1203 && !same(x, whole) || e != api.OK {
				t.Fatalf("with %d: %+v %d", fuel, x, e)
			}
		}
	}
}

// anyText: a source text at random, whose names are there.
func anyText(r *rand.Rand, deep int) string {
	var b strings.Builder
	for range 1 + r.Intn(5) {
		switch kind := r.Intn(12); {
		case kind < 3:
			b.WriteString("m[" + anyExpr(r, 1) + " & 3] = " + anyExpr(r, 2) + ";\n")
		case kind < 5:
			b.WriteString("emit " + anyExpr(r, 3) + ";\n")
		case kind == 5:
			b.WriteString("into " + strconv.Itoa(r.Intn(4)) + " " + anyExpr(r, 2) + ";\n")
		case kind < 8:
			b.WriteString([]string{"n", "i", "k", "x"}[r.Intn(4)] + " = " + anyExpr(r, 3) + ";\n")
		case kind == 8 && r.Intn(4) == 0:
			b.WriteString([]string{"stop;\n", "fail " + anyExpr(r, 1) + ";\n", "m[" + anyExpr(r, 1) + "] = 1;\n"}[r.Intn(3)])
		case deep > 0 && kind < 10:
			b.WriteString("while (" + anyExpr(r, 2) + ") {\n" + anyText(r, deep-1) + "}\n")
		case deep > 0:
			b.WriteString("if (" + anyExpr(r, 2) + ") {\n" + anyText(r, deep-1) + "} else {\n" + anyText(r, deep-1) + "}\n")
		}
	}
	return b.String()
}

func anyExpr(r *rand.Rand, deep int) string {
	kind := r.Intn(8)
	if deep == 0 {
		kind = r.Intn(3)
	}
	switch kind {
	case 0:
		return strconv.Itoa(r.Intn(5))
	case 1, 2:
		return []string{"n", "i", "k", "x"}[r.Intn(4)]
	case 3:
		return "m[" + anyExpr(r, deep-1) + " & 3]"
	case 4:
		return []string{"-", "~", "!"}[r.Intn(3)] + "(" + anyExpr(r, deep-1) + ")"
	}
	sign := []string{"+", "-", "*", "/", "%", "&", "|", "^", "<<", ">>", "==", "!=", "<", "<=", ">", ">="}[r.Intn(16)]
	return "(" + anyExpr(r, deep-1) + " " + sign + " " + anyExpr(r, deep-1) + ")"
}

// P11.4 with P10.1 and P7.1: the instructions of a source text do what it means
func TestMeaning(t *testing.T) {
	seen := map[api.Over]int{}
	for round := range 4000 {
		r := rand.New(rand.NewSource(int64(round)))
		l, _, e := tree.Parse("var x = i;\n" + anyText(r, 2))
		code, no := gen.Compile(l, 4)
		if e == api.ErrNest || e == api.ErrMany || no == api.ErrLen || no == api.ErrDeep {
			continue
		}
		if e != api.OK || no != api.OK {
			t.Fatal(round, e, no)
		}
		in := anyInput(r, 4)
		x, e := ran(t, code, 4, 4000, in)
		if e != api.OK {
			t.Fatal(round, e)
		}
		seen[x.Over]++
		if x.Over == api.Spent {
			continue
		}
		meant, e := eval.Run(l, 4, in, 4000)
		x.Ticks, meant.Ticks = 0, 0
		if e != api.OK || !same(x, meant) {
			t.Fatalf("%d: %+v, meant is %+v %d", round, x, meant, e)
		}
	}
	for over := api.Halted; over <= api.Spent; over++ {
		if seen[over] < 50 {
			t.Error("too few:", seen)
		}
	}
}
