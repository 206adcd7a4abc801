package opt

import (
	"math/rand"
	"slices"
	"strconv"
	"strings"
	"testing"

	"outrider/api"
	"outrider/eval"
	"outrider/gen"
	"outrider/ins"
	"outrider/num"
	"outrider/tree"
	"outrider/vm"
)

// second is another way to each of the passes: what a place is, is asked of the whole text, place by place.
type second []api.Ins

// target: where it jumps to, or -1.
func (l second) target(at int) int {
	switch l[at].Kind {
	case api.InsJump, api.InsZero, api.InsOther:
		return int(l[at].K)
	}
	return -1
}

// next: the places that may be done behind one.
func (l second) next(at int) []int {
	var to []int
	if kind := l[at].Kind; kind != api.InsHalt && kind != api.InsJump && kind != api.InsFail {
		to = append(to, at+1)
	}
	if k := l.target(at); k >= 0 {
		to = append(to, k)
	}
	return to
}

func (l second) leads(at int) bool {
	for p := range l {
		if l.target(p) == at {
			return true
		}
	}
	if at == 0 {
		return true
	}
	kind := l[at-1].Kind
	return kind >= api.InsJump || kind == api.InsHalt
}

// number: what a register has ahead of a place, found backwards, from what the one becomes that set it last.
func (l second) number(at, r int) (int64, bool) {
	for !l.leads(at) {
		at--
		x := l[at]
		if x.Kind >= api.InsConst && x.Kind <= api.InsLoad && x.A == r {
			made := l.folded(at)
			return made.K, made.Kind == api.InsConst
		}
	}
	return 0, false
}

func (l second) folded(at int) api.Ins {
	x := l[at]
	a, isA := l.number(at, x.A)
	b, isB := l.number(at, x.B)
	c, isC := l.number(at, x.C)
	switch x.Kind {
	case api.InsMove:
		if isB {
			return api.Ins{Kind: api.InsConst, A: x.A, K: b}
		}
	case api.InsOne:
		if n, _ := num.One(x.Op, b); isB {
			return api.Ins{Kind: api.InsConst, A: x.A, K: n}
		}
	case api.InsTwo:
		if n, is := num.Two(x.Op, b, c); isB && isC && is {
			return api.Ins{Kind: api.InsConst, A: x.A, K: n}
		}
		if !isB && isC && idle(x.Op, c) {
			return api.Ins{Kind: api.InsMove, A: x.A, B: x.B}
		}
	case api.InsZero, api.InsOther:
		if isA && (a == 0) == (x.Kind == api.InsZero) {
			return api.Ins{Kind: api.InsJump, K: x.K}
		} else if isA {
			return api.Ins{Kind: api.InsJump, K: int64(at + 1)}
		}
	}
	return x
}

// idle: does the operation, but for those that compare, give its left number with this right one? Of many it is tried out.
func idle(op api.Op, right int64) bool {
	if op > api.OpShr || op == api.OpRem {
		return false
	}
	for _, left := range []int64{0, 1, -1, 2, 3, -3, 1 << 40, -1 << 40, 1<<63 - 1, -1 << 63, 0x5555555555555555} {
		if n, is := num.Two(op, left, right); !is || n != left {
			return false
		}
	}
	return true
}

func (l second) fold() []api.Ins {
	var made []api.Ins
	for at := range l {
		made = append(made, l.folded(at))
	}
	return made
}

// end: from jump to jump, with those that were come to already; -1, if one of them is come to again.
func (l second) end(at int, come ...int) int {
	switch {
	case l[at].Kind != api.InsJump:
		return at
	case slices.Contains(come, at):
		return -1
	}
	return l.end(l.target(at), append(come, at)...)
}

func (l second) thread() []api.Ins {
	made := slices.Clone(l)
	for at := range l {
		if k := l.target(at); k >= 0 {
			if end := l.end(k); end >= 0 {
				made[at].K = int64(end)
			}
			if made[at].Kind == api.InsJump && l[made[at].K].Kind == api.InsHalt {
				made[at] = api.Ins{Kind: api.InsHalt}
			}
		}
	}
	return made
}

// asks: does an instruction read a register?
func asks(x api.Ins, r int) bool {
	switch k := x.Kind; {
	case k == api.InsHalt || k == api.InsConst || k == api.InsJump:
		return false
	case k == api.InsStore:
		return r == x.A || r == x.B
	case k == api.InsTwo:
		return r == x.B || r == x.C
	case k < api.InsStore:
		return r == x.B
	}
	return r == x.A
}

// wanted: may one go from a place to an instruction that reads a register, by way of those that don't set it? Each place is gone through once.
func (l second) wanted(at, r int, come []bool) bool {
	if come[at] {
		return false
	}
	come[at] = true
	if x := l[at]; asks(x, r) {
		return true
	} else if x.Kind >= api.InsConst && x.Kind <= api.InsLoad && x.A == r {
		return false
	}
	return slices.ContainsFunc(l.next(at), func(to int) bool { return l.wanted(to, r, come) })
}

func (l second) live(at, r int) bool {
	return slices.ContainsFunc(l.next(at), func(to int) bool { return l.wanted(to, r, make([]bool, len(l))) })
}

func (l second) allLive() []uint32 {
	all := make([]uint32, len(l))
	for at := range l {
		for r := range 16 {
			if l.live(at, r) {
				all[at] += 1 << r
			}
		}
	}
	return all
}

func (l second) dead() []api.Ins {
	made := slices.Clone(l)
	for at, x := range l {
		if x.Kind >= api.InsConst && x.Kind <= api.InsTwo && x.Op != api.OpDiv && x.Op != api.OpRem && !l.live(at, x.A) {
			made[at] = api.Ins{Kind: api.InsMove}
		}
	}
	return made
}

func (l second) come(at int, is map[int]int) map[int]int {
	if is[at]++; is[at] == 1 {
		for _, to := range l.next(at) {
			l.come(to, is)
		}
	}
	return is
}

func (l second) sweep() []api.Ins {
	is := l.come(0, map[int]int{})
	var kept []int // places, the last one first
	for at := len(l) - 1; at >= 0; at-- {
		x := l[at]
		switch k := l.target(at); {
		case is[at] == 0, x.Kind == api.InsMove && x.A == x.B:
		case k == at+1:
		case x.Kind == api.InsJump && k > at && !slices.ContainsFunc(kept, func(p int) bool { return p < k }):
		default:
			kept = append(kept, at)
		}
	}
	slices.Reverse(kept)
	var made []api.Ins
	for _, at := range kept {
		x := l[at]
		if k := l.target(at); k >= 0 {
			x.K = int64(slices.IndexFunc(kept, func(p int) bool { return p >= k }))
		}
		made = append(made, x)
	}
	return made
}

func (l second) improve() []api.Ins {
	for {
		made := second(second(second(second(l).fold()).thread()).dead()).sweep()
		if slices.Equal(made, l) {
			return made
		}
		l = made
	}
}

func anyWord(r *rand.Rand) int64 {
	if r.Intn(6) == 0 {
		return int64(r.Uint64()) >> r.Intn(64)
	}
	return []int64{0, 0, 0, 1, 1, -1, 2, 3, 64, -64}[r.Intn(10)]
}

// anyIns: an instruction that may be in a text so long, with few registers, so that they meet, and many numbers that are known. The calmer, the longer are its rows.
func anyIns(r *rand.Rand, at, long, calm int) api.Ins {
	a, b, c := r.Intn(5), r.Intn(5), r.Intn(5)
	kind := []api.InsKind{api.InsConst, api.InsConst, api.InsConst, api.InsConst, api.InsMove, api.InsOne, api.InsTwo, api.InsTwo, api.InsTwo, api.InsTwo, api.InsLoad, api.InsStore, api.InsInto, api.InsEmit}[r.Intn(14)]
	if r.Intn(calm) == 0 {
		kind = []api.InsKind{api.InsHalt, api.InsFail, api.InsJump, api.InsJump, api.InsZero, api.InsZero, api.InsOther, api.InsOther}[r.Intn(8)]
	}
	target := int64(r.Intn(long))
	if r.Intn(2) == 0 {
		target = int64(min(at+1+r.Intn(3), long-1))
	}
	switch kind {
	case api.InsConst:
		return api.Ins{Kind: kind, A: a, K: anyWord(r)}
	case api.InsMove:
		return api.Ins{Kind: kind, A: a, B: b}
	case api.InsOne:
		return api.Ins{Kind: kind, Op: api.OpNeg + api.Op(r.Intn(3)), A: a, B: b}
	case api.InsTwo:
		return api.Ins{Kind: kind, Op: api.OpAdd + api.Op(r.Intn(18)), A: a, B: b, C: c}
	case api.InsLoad, api.InsStore:
		if r.Intn(6) == 0 {
			return api.Ins{Kind: kind, A: a, B: b, K: anyWord(r)}
		}
		return api.Ins{Kind: kind, A: a, B: 15, K: int64(r.Intn(4))} // a register that stays 0, so that most are inside
	case api.InsInto:
		return api.Ins{Kind: kind, A: a, C: r.Intn(4)}
	case api.InsJump:
		return api.Ins{Kind: kind, K: target}
	case api.InsZero, api.InsOther:
		return api.Ins{Kind: kind, A: a, K: target}
	case api.InsHalt:
		return api.Ins{Kind: kind}
	}
	return api.Ins{Kind: kind, A: a}
}

func anyCode(r *rand.Rand, most int) []api.Ins {
	l := make([]api.Ins, 1+r.Intn(most))
	calm := 2 + r.Intn(8)
	for at := range l {
		l[at] = anyIns(r, at, len(l), calm)
	}
	l[len(l)-1] = []api.Ins{{Kind: api.InsHalt}, {Kind: api.InsJump, K: int64(r.Intn(len(l)))}, {Kind: api.InsFail, A: r.Intn(5)}}[r.Intn(3)]
	return l
}

func anyInput(r *rand.Rand) api.Input {
	in := api.Input{Mem: make([]int64, 4), N: anyWord(r), I: anyWord(r), K: anyWord(r)}
	for i := range in.Mem {
		in.Mem[i] = anyWord(r)
	}
	return in
}

// P12.1, P12.2: texts at random, held against the second way
func TestRandom(t *testing.T) {
	turned := [5]int{}
	for round := range 8000 {
		r := rand.New(rand.NewSource(int64(round)))
		l := anyCode(r, 2+round%50)
		s := second(l)
		leads := make([]bool, len(l))
		for at := range l {
			leads[at] = s.leads(at)
		}
		if got := asked(t, Leaders, l); !slices.Equal(got, leads) {
			t.Fatalf("%d: leaders %v, not %v of %v", round, got, leads, l)
		}
		if got, want := asked(t, Live, l), s.allLive(); !slices.Equal(got, want) {
			t.Fatalf("%d: live %v, not %v of %v", round, got, want, l)
		}
		for n, want := range [][]api.Ins{s.fold(), s.thread(), s.dead(), s.sweep()} {
			got := asked(t, passes()[n], l)
			if !slices.Equal(got, want) {
				t.Fatalf("%d: pass %d: %v, not %v of %v", round, n, got, want, l)
			}
			if at, e := ins.Check(got, 4); e != api.OK {
				t.Fatalf("%d: pass %d: %v may not be: %d at %d", round, n, got, e, at)
			}
			if !slices.Equal(got, l) {
				turned[n]++
			}
		}
		want := s.improve()
		if got, e := improved(t, l, 4); e != api.OK || !slices.Equal(got, want) {
			t.Fatalf("%d: %v %d, not %v of %v", round, got, e, want, l)
		}
		if !slices.Equal(want, l) {
			turned[4]++
		}
	}
	for _, many := range turned {
		if many < 1000 || many > 7990 {
			t.Error("turned too seldom, or always:", turned)
		}
	}
}

// P12.1, P12.2: texts at random of which one part is another
func TestRandomWrong(t *testing.T) {
	seen := map[api.Errno]int{}
	for round := range 8000 {
		r := rand.New(rand.NewSource(int64(round)))
		l := anyCode(r, 12)
		x := &l[r.Intn(len(l))]
		n := r.Intn(24) - 2
		switch r.Intn(6) {
		case 0:
			x.Kind = api.InsKind(n)
		case 1:
			x.Op = api.Op(n)
		case 2:
			x.A = n
		case 3:
			x.B = n
		case 4:
			x.C = n
		case 5:
			x.K = int64(n)
		}
		_, e := ins.Check(l, 4)
		if seen[e]++; e == api.OK {
			continue
		}
		for _, pass := range passes() {
			if got := asked(t, pass, l); !slices.Equal(got, l) {
				t.Fatalf("%d: %v, not %v", round, got, l)
			}
		}
		if got := asked(t, Leaders, l); len(got) > 0 {
			t.Fatal(round, got)
		}
		if got := asked(t, Live, l); len(got) > 0 {
			t.Fatal(round, got)
		}
		if got, no := improved(t, l, 4); no != e {
			t.Fatalf("%d: %v %d, not %d", round, got, no, e)
		}
	}
	for _, e := range []api.Errno{api.OK, api.ErrOp, api.ErrReg, api.ErrUnused, api.ErrCell, api.ErrTarget, api.ErrFall} {
		if seen[e] < 20 {
			t.Error("too few:", seen)
		}
	}
}

// alike: P12.3: does another text end in the same way, with the same effect, in no more steps, wherever the first one isn't Spent?
func alike(x, y api.Effect) bool {
	return slices.Equal(x.Mem, y.Mem) && slices.Equal(x.Outs, y.Outs) && slices.Equal(x.Intos, y.Intos) && x.Over == y.Over && x.Value == y.Value && y.Ticks <= x.Ticks
}

// doesTheSame: with each fuel up to some; how the first text ends with the greatest, and in how many steps fewer the other one does.
func doesTheSame(t *testing.T, first, other []api.Ins, in api.Input, most int) (api.Over, int) {
	t.Helper()
	var x, y api.Effect
	for fuel := most; fuel > 0; fuel-- {
		var e, no api.Errno
		x, e = vm.Run(first, 4, fuel, in)
		y, no = vm.Run(other, 4, fuel, in)
		if e != api.OK || no != api.OK {
			t.Fatal(e, no)
		}
		if x.Over == api.Spent {
			return x.Over, 0 // with less fuel, too
		}
		if !alike(x, y) {
			t.Fatalf("with %d on %v: %v %v, not %v %v", fuel, in, other, y, first, x)
		}
		if fuel > x.Ticks+2 {
			fuel = x.Ticks + 2 // to just as many as it takes
		} else if fuel == x.Ticks {
			break
		}
	}
	return x.Over, x.Ticks - y.Ticks
}

// P12.3: texts at random, on many inputs and with many fuels; and so after each pass by itself
func TestSameEffect(t *testing.T) {
	seen, shorter := map[api.Over]int{}, 0
	for round := range 8000 {
		r := rand.New(rand.NewSource(int64(round)))
		l := anyCode(r, 4+round%60)
		m, e := Improve(l, 4)
		if e != api.OK {
			t.Fatal(e)
		}
		for range 8 {
			in := anyInput(r)
			over, fewer := doesTheSame(t, l, m, in, 300)
			if seen[over]++; fewer > 0 {
				shorter++
			}
			for _, pass := range passes() {
				doesTheSame(t, l, pass(l), in, 60)
			}
		}
	}
	for over := api.Halted; over <= api.Spent; over++ {
		if seen[over] < 300 || shorter < 10000 {
			t.Error("too few:", seen, shorter)
		}
	}
}

// P12.3: each fuel that there is
func TestEachFuel(t *testing.T) {
	l := listed(t, "const r3 200; const r4 1; move r5 r4; jump l4; l4:; sub r3 r3 r5; neg r6 r3; store r3 r9 0; other r3 l4; jump l9; l9:; emit r3; halt")
	m, e := improved(t, l, 0)
	if e != api.OK || len(m) >= len(l) {
		t.Fatal(m, e)
	}
	in := api.Input{Mem: []int64{5}, I: 6}
	whole, _ := vm.Run(l, 0, 4000, in)
	for fuel := 1; fuel <= 4000; fuel++ {
		x, _ := vm.Run(l, 0, fuel, in)
		y, _ := vm.Run(m, 0, fuel, in)
		if x.Over != api.Spent && !alike(x, y) {
			t.Fatalf("with %d: %v, not %v", fuel, y, x)
		}
		if (x.Over == api.Spent) != (fuel < whole.Ticks) {
			t.Fatal(fuel, x)
		}
	}
}

// anyText: a source text at random, whose names are there.
func anyText(r *rand.Rand, deep int) string {
	var b strings.Builder
	for range 1 + r.Intn(5) {
		switch kind := r.Intn(12); {
		case kind < 3:
			b.WriteString("m[" + anyExpr(r, 1) + " & 3] = " + anyExpr(r, 2) + ";\n")
		case kind < 5:
			b.WriteString("emit " + anyExpr(r, 3) + ";\n")
		case kind == 5:
			b.WriteString("into " + strconv.Itoa(r.Intn(4)) + " " + anyExpr(r, 2) + ";\n")
		case kind < 8:
			b.WriteString([]string{"n", "i", "k", "x"}[r.Intn(4)] + " = " + anyExpr(r, 3) + ";\n")
		case kind == 8 && r.Intn(4) == 0:
			b.WriteString([]string{"stop;\n", "fail " + anyExpr(r, 1) + ";\n", "m[" + anyExpr(r, 1) + " * 5] = 1;\n"}[r.Intn(3)])
		case deep > 0 && kind < 10:
			b.WriteString("while (" + anyExpr(r, 2) + ") {\n" + anyText(r, deep-1) + "}\n")
		case deep > 0:
			b.WriteString("if (" + anyExpr(r, 2) + ") {\n" + anyText(r, deep-1) + "} else {\n" + anyText(r, deep-1) + "}\n")
		}
	}
	return b.String()
}

func anyExpr(r *rand.Rand, deep int) string {
	kind := r.Intn(8)
	if deep == 0 {
		kind = r.Intn(3)
	}
	switch kind {
	case 0, 1:
		return strconv.Itoa(r.Intn(3))
	case 2:
		return []string{"n", "i", "k", "x"}[r.Intn(4)]
	case 3:
		return "m[" + anyExpr(r, deep-1) + " & 3]"
	case 4:
		return []string{"-", "~", "!"}[r.Intn(3)] + "(" + anyExpr(r, deep-1) + ")"
	}
	sign := []string{"+", "-", "*", "/", "%", "&", "|", "^", "<<", ">>", "==", "!=", "<", "<=", ">", ">="}[r.Intn(16)]
	return "(" + anyExpr(r, deep-1) + " " + sign + " " + anyExpr(r, deep-1) + ")"
}

// P12.3 with P10.1 and P7.1: the improved instructions of a source text do what it means
func TestMeaning(t *testing.T) {
	seen, shorter := map[api.Over]int{}, 0
	for round := range 4000 {
		r := rand.New(rand.NewSource(int64(round)))
		l, _, e := tree.Parse("var x = i;\n" + anyText(r, 2))
		code, no := gen.Compile(l, 4)
		if e == api.ErrNest || e == api.ErrMany || no == api.ErrLen || no == api.ErrDeep {
			continue
		}
		if e != api.OK || no != api.OK {
			t.Fatal(round, e, no)
		}
		m, e := improved(t, code, 4)
		if e != api.OK {
			t.Fatal(round, e)
		}
		if len(m) < len(code) {
			shorter++
		}
		in := anyInput(r)
		over, _ := doesTheSame(t, code, m, in, 4000)
		if seen[over]++; over == api.Spent {
			continue
		}
		x, _ := vm.Run(m, 4, 4000, in)
		meant, e := eval.Run(l, 4, in, 4000)
		x.Ticks, meant.Ticks = 0, 0
		if e != api.OK || !alike(meant, x) {
			t.Fatalf("%d: %+v, meant is %+v %d", round, x, meant, e)
		}
	}
	for over := api.Halted; over <= api.Spent; over++ {
		if seen[over] < 30 || shorter < 1000 {
			t.Error("too few:", seen, shorter)
		}
	}
}
