package opt

import (
	"math"
	"slices"
	"strings"
	"testing"

	"outrider/api"
	"outrider/asm"
	"outrider/ins"
)

// listed: the instructions of a listing in one line.
func listed(t *testing.T, s string) []api.Ins {
	t.Helper()
	l, line, e := asm.Parse(strings.ReplaceAll(s, "; ", "\n"), 4)
	if e != api.OK {
		t.Fatalf("%q: %d at %d", s, e, line)
	}
	return l
}

// inLine: a listing in one line.
func inLine(t *testing.T, l []api.Ins) string {
	t.Helper()
	text, e := asm.Text(l, 4)
	if e != api.OK {
		t.Fatalf("%v: %d", l, e)
	}
	return strings.ReplaceAll(strings.TrimSuffix(text, "\n"), "\n", "; ")
}

// asked: what a call answers; it leaves what it is handed, also behind the length, answers the same twice, and shares nothing.
func asked[T comparable](t *testing.T, call func([]api.Ins) []T, l []api.Ins) []T {
	t.Helper()
	behind := []api.Ins{{Kind: 71, A: 72}, {Kind: api.InsHalt}}
	long := slices.Concat(l, behind)
	handed := long[:len(l)]
	got := call(handed)
	kept := slices.Clone(got)
	clear(got)
	clear(got[:cap(got)])
	if !slices.Equal(handed, l) || !slices.Equal(long[len(l):], behind) {
		t.Fatalf("what was handed in is changed: %v, not %v", long, l)
	}
	if again := call(handed); !slices.Equal(again, kept) {
		t.Fatalf("%v, and then %v", kept, again)
	}
	return kept
}

// becomes: what a pass makes of each of some listings.
func becomes(t *testing.T, pass func([]api.Ins) []api.Ins, cases [][2]string) {
	t.Helper()
	for _, c := range cases {
		if got := inLine(t, asked(t, pass, listed(t, c[0]))); got != c[1] {
			t.Errorf("%s: %s, not %s", c[0], got, c[1])
		}
	}
}

// stays: listings that a pass leaves.
func stays(t *testing.T, pass func([]api.Ins) []api.Ins, cases []string) {
	t.Helper()
	for _, c := range cases {
		becomes(t, pass, [][2]string{{c, c}})
	}
}

func passes() []func([]api.Ins) []api.Ins {
	return []func([]api.Ins) []api.Ins{Fold, Thread, Dead, Sweep}
}

// improved: what Improve answers; what comes of it may be, is no longer, and stays when it is improved again.
func improved(t *testing.T, l []api.Ins, cells int) ([]api.Ins, api.Errno) {
	t.Helper()
	var e api.Errno
	got := asked(t, func(l []api.Ins) (m []api.Ins) {
		m, e = Improve(l, cells)
		return m
	}, l)
	if e != api.OK {
		if len(got) != 0 {
			t.Fatalf("%v beside the error %d", got, e)
		}
		return nil, e
	}
	if at, no := ins.Check(got, cells); no != api.OK {
		t.Fatalf("%v may not be: %d at %d", got, no, at)
	}
	if len(got) > len(l) {
		t.Fatalf("%d of %d", len(got), len(l))
	}
	if again, no := Improve(got, cells); no != api.OK || !slices.Equal(again, got) {
		t.Fatalf("%v, and again %v %d", got, again, no)
	}
	for _, pass := range passes() {
		if again := pass(got); !slices.Equal(again, got) {
			t.Fatalf("a pass turns %v to %v", got, again)
		}
	}
	return got, e
}

func improves(t *testing.T, cases [][2]string) {
	t.Helper()
	becomes(t, func(l []api.Ins) []api.Ins {
		m, e := improved(t, l, 4)
		if e != api.OK {
			t.Fatal(e)
		}
		return m
	}, cases)
}

// P12.2: the chapter's examples
func TestExamples(t *testing.T) {
	improves(t, [][2]string{
		{"const r3 2; const r4 3; mul r5 r3 r4; emit r5; halt", "const r5 6; emit r5; halt"},
		{"const r3 0; zero r3 l3; emit r1; l3:; halt", "halt"},
		{"l0:; jump l0", "l0:; jump l0"},
	})
}

// P12.2
func TestImprove(t *testing.T) {
	improves(t, [][2]string{
		{"halt", "halt"},
		{"fail r1", "fail r1"},
		{"const r3 5; fail r3", "const r3 5; fail r3"},
		{"const r3 5; fail r4", "fail r4"},
		{"const r3 0; add r4 r1 r3; emit r4; halt", "move r4 r1; emit r4; halt"},
		{"const r3 0; add r1 r1 r3; emit r1; halt", "emit r1; halt"},
		{"const r3 0; div r4 r1 r3; halt", "const r3 0; div r4 r1 r3; halt"},
		{"const r3 1; div r4 r1 r3; halt", "halt"},
		{"const r3 0; const r4 0; rem r4 r4 r3; halt", "const r3 0; const r4 0; rem r4 r4 r3; halt"},
		// what stands ahead of one that went isn't read any more: a round for each
		{"move r4 r1; neg r5 r4; com r6 r5; not r7 r6; halt", "halt"},
		{"load r4 r1 0; neg r5 r4; halt", "load r4 r1 0; halt"},
		// a jump that goes joins two rows, so that more is known
		{"const r3 0; jump l2; l2:; zero r3 l4; emit r1; l4:; emit r2; halt", "emit r2; halt"},
		{"const r3 7; other r3 l3; emit r3; l3:; add r4 r3 r3; emit r4; halt", "const r4 14; emit r4; halt"},
		{"const r3 7; zero r3 l3; emit r3; l3:; emit r2; halt", "const r3 7; emit r3; emit r2; halt"},
		// rings
		{"jump l1; l1:; jump l0; l0:; jump l1", "l0:; jump l0"},
		{"l0:; jump l1; l1:; jump l0", "l0:; jump l0"},
		{"l0:; move r3 r3; jump l0", "l0:; jump l0"},
		{"l0:; const r3 5; jump l0", "l0:; jump l0"},
		{"l0:; emit r1; jump l0", "l0:; emit r1; jump l0"},
		{"emit r1; jump l1; emit r2; l1:; jump l2; l2:; halt", "emit r1; halt"},
		// a loop that reads what it sets
		{"const r3 1; l1:; sub r1 r1 r3; other r1 l1; halt", "const r3 1; l1:; sub r1 r1 r3; other r1 l1; halt"},
		{"const r3 1; const r4 2; l1:; emit r4; const r4 3; sub r1 r1 r3; other r1 l1; halt", "const r3 1; const r4 2; l2:; emit r4; const r4 3; sub r1 r1 r3; other r1 l2; halt"},
		{"const r3 1; const r4 2; l1:; const r4 3; emit r4; sub r1 r1 r3; other r1 l1; halt", "const r3 1; l1:; const r4 3; emit r4; sub r1 r1 r3; other r1 l1; halt"},
		// who goes nowhere else
		{"zero r1 l1; l1:; other r2 l2; l2:; emit r1; halt", "emit r1; halt"},
		{"zero r1 l1; jump l2; l1:; jump l2; l2:; emit r1; halt", "emit r1; halt"},
		{"zero r1 l1; jump l2; l1:; halt; l2:; halt", "zero r1 l2; halt; l2:; halt"},
	})
}

// P12.2: each of the passes is taken, and those ahead of it don't do what it does
func TestImproveTakesEachPass(t *testing.T) {
	for _, c := range [][2]string{
		{"const r3 5; neg r4 r3; emit r3; emit r4; halt", "const r3 5; const r4 -5; emit r3; emit r4; halt"},
		{"zero r1 l2; emit r1; halt; l2:; jump l3; l3:; emit r2; jump l4; emit r1; l4:; emit r0; zero r1 l3; halt", "zero r1 l3; emit r1; halt; l3:; emit r2; emit r0; zero r1 l3; halt"},
		{"zero r1 l2; emit r2; jump l3; l2:; emit r1; l3:; halt", "zero r1 l3; emit r2; halt; l3:; emit r1; halt"},
		{"neg r4 r1; emit r1; halt", "emit r1; halt"},
		{"move r1 r1; emit r1; halt", "emit r1; halt"},
	} {
		improves(t, [][2]string{c})
	}
}

// wrong: texts that may not be beside four reductions, with the error.
func wrong() map[api.Errno][][]api.Ins {
	halt := api.Ins{Kind: api.InsHalt}
	move := api.Ins{Kind: api.InsMove, A: 1, B: 1}
	return map[api.Errno][][]api.Ins{
		api.ErrLen:    {nil, {}, slices.Repeat([]api.Ins{halt}, 601), slices.Repeat([]api.Ins{{Kind: 99}}, 601), append(slices.Repeat([]api.Ins{move}, 600), halt)},
		api.ErrOp:     {{{}}, {{Kind: 14}}, {{Kind: -1}, halt}, {move, halt, {Kind: math.MaxInt}}, {{Kind: api.InsTwo, Op: api.OpNeg}, halt}, {{Kind: api.InsOne, Op: api.OpAdd}, halt}, {move, {Kind: api.InsTwo}, halt}},
		api.ErrReg:    {{{Kind: api.InsConst, A: 16, K: 1}, halt}, {{Kind: api.InsMove, B: -1}, halt}, {{Kind: api.InsTwo, Op: api.OpAdd, C: math.MaxInt}, halt}, {move, {Kind: api.InsFail, A: math.MinInt}}, {halt, {Kind: api.InsZero, A: 16}, halt}},
		api.ErrUnused: {{move, {Kind: api.InsHalt, K: 1}}, {{Kind: api.InsMove, A: 1, B: 1, C: 1}, halt}, {{Kind: api.InsJump, A: 1}}, {{Kind: api.InsConst, Op: 1}, halt}},
		api.ErrCell:   {{{Kind: api.InsInto, C: 4}, halt}, {move, {Kind: api.InsInto, C: -1}, halt}, {halt, {Kind: api.InsInto, C: math.MaxInt}, halt}},
		api.ErrTarget: {{{Kind: api.InsJump, K: 1}}, {{Kind: api.InsJump, K: -1}}, {move, {Kind: api.InsZero, K: 3}, halt}, {move, {Kind: api.InsOther, K: math.MinInt64}, halt}, {{Kind: api.InsJump, K: 1 << 32}, halt}},
		api.ErrFall:   {{move}, {{Kind: api.InsConst, A: 1, K: 1}}, {{Kind: api.InsJump, K: 1}, move}, {halt, {Kind: api.InsZero}}, {halt, {Kind: api.InsOther, K: 1}}, {halt, {Kind: api.InsEmit}}},
	}
}

// P12.1, P12.2: instructions that may not be
func TestWrong(t *testing.T) {
	for e, all := range wrong() {
		for _, l := range all {
			for _, pass := range passes() {
				if got := asked(t, pass, l); !slices.Equal(got, l) {
					t.Errorf("%d: %v, not %v", e, got, l)
				}
			}
			if got := asked(t, Leaders, l); len(got) != 0 {
				t.Errorf("%d: %v has the leaders %v", e, l, got)
			}
			if got := asked(t, Live, l); len(got) != 0 {
				t.Errorf("%d: of %v are live %v", e, l, got)
			}
			if got, no := improved(t, l, 4); no != e {
				t.Errorf("%v: %v %d, not %d", l, got, no, e)
			}
		}
	}
}

// P12.2: how many reductions there are; the passes take as many as there may be
func TestReductions(t *testing.T) {
	for c := range 4 {
		l := []api.Ins{{Kind: api.InsConst, A: 3, K: 5}, {Kind: api.InsMove, A: 3, B: 3}, {Kind: api.InsInto, A: 3, C: c}, {Kind: api.InsHalt}, {Kind: api.InsHalt}}
		for _, cells := range []int{math.MinInt, -1, 0, 1, 2, 3, 4, 5, math.MaxInt} {
			got, e := improved(t, l, cells)
			if c >= cells {
				if e != api.ErrCell {
					t.Errorf("%d of %d: %v %d", c, cells, got, e)
				}
			} else if want := append(l[:1:1], l[2:4]...); e != api.OK || !slices.Equal(got, want) {
				t.Errorf("%d of %d: %v %d, not %v", c, cells, got, e, want)
			}
		}
		if got := asked(t, Fold, l); got[1] != l[0] {
			t.Errorf("%d: %v", c, got)
		}
		if got := asked(t, Sweep, l); len(got) != 3 {
			t.Errorf("%d: %v", c, got)
		}
		if len(Leaders(l)) != 5 || len(Live(l)) != 5 || Live(l)[1] != 8 {
			t.Errorf("%d: %v %v", c, Leaders(l), Live(l))
		}
	}
	into := []api.Ins{{Kind: api.InsMove}, {Kind: api.InsInto, C: 4}, {Kind: api.InsHalt}}
	if got := Sweep(into); len(got) != 3 || len(Leaders(into)) != 0 {
		t.Errorf("%v", got)
	}
}

func jump(to int) api.Ins {
	return api.Ins{Kind: api.InsJump, K: int64(to)}
}

// negs: so many, each of which reads what the one ahead of it sets, so that one goes in each round.
func negs(many int) []api.Ins {
	var l []api.Ins
	for at := range many {
		l = append(l, api.Ins{Kind: api.InsOne, Op: api.OpNeg, A: 3 + (at+1)%2, B: 3 + at%2})
	}
	return l
}

// upwards: a text that is done from its last pair to its first one, behind some others.
func upwards(first []api.Ins, pairs int) []api.Ins {
	emit := api.Ins{Kind: api.InsEmit, A: 5}
	from := len(first) + 1
	l := append(slices.Clone(first), jump(from+2*pairs-2), emit, api.Ins{Kind: api.InsHalt})
	for n := range pairs - 1 {
		l = append(l, emit, jump(from+2*n))
	}
	return l
}

// P12.2: the greatest texts, among them those that want a round for each instruction
func TestLong(t *testing.T) {
	halt, emit := api.Ins{Kind: api.InsHalt}, api.Ins{Kind: api.InsEmit, A: 1}
	var row, pairs []api.Ins
	for at := range 599 {
		row = append(row, jump(at+1))
	}
	for at := range 300 {
		pairs = append(pairs, emit, jump((2*at+2)%600))
	}
	for _, c := range []struct {
		what string
		l    []api.Ins
		want int
	}{
		{"halts", slices.Repeat([]api.Ins{halt}, 600), 1},
		{"emits", append(slices.Repeat([]api.Ins{emit}, 599), halt), 600},
		{"each reads the one ahead of it", append(negs(599), halt), 1},
		{"a ring of jumps", append(slices.Clone(row), jump(0)), 1},
		{"a row of jumps", append(slices.Clone(row), halt), 1},
		{"pairs that go round", pairs, 301},
		{"upwards", upwards(nil, 299), 599},
		{"upwards, with a number", upwards([]api.Ins{{Kind: api.InsConst, A: 5, K: 5}}, 299), 600},
		{"upwards, with what goes", upwards(negs(301), 149), 299},
	} {
		if got, e := improved(t, c.l, 0); e != api.OK || len(got) != c.want {
			t.Errorf("%s: %d %d, not %d", c.what, len(got), e, c.want)
		}
	}
}
