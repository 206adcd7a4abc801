package dep

import (
	"math"
	"slices"
	"strings"
	"testing"

	"outrider/api"
	"outrider/asm"
	"outrider/gen"
	"outrider/ins"
	"outrider/tree"
)

// reds: how many reductions the listings of the tests may use.
const reds = 2

// listed: the instructions of a listing in one line.
func listed(t *testing.T, s string) []api.Ins {
	t.Helper()
	l, line, e := asm.Parse(strings.ReplaceAll(s, "; ", "\n"), reds)
	if e != api.OK {
		t.Fatalf("%q: %d at %d", s, e, line)
	}
	return l
}

// compiled: the instructions of a source text.
func compiled(t *testing.T, s string) []api.Ins {
	t.Helper()
	l, at, e := tree.Parse(s)
	if e != api.OK {
		t.Fatalf("%q: %d at %d", s, e, at)
	}
	code, e := gen.Compile(l, reds)
	if e != api.OK {
		t.Fatalf("%q: %d", s, e)
	}
	return code
}

// asked: what Accesses answers; it leaves what it is handed, and keeps none of it.
func asked(t *testing.T, l []api.Ins, cells int) ([]Access, bool) {
	t.Helper()
	was := slices.Clone(l)
	got, ok := Accesses(l, cells)
	if !slices.Equal(l, was) {
		t.Fatal("the instructions that were handed in are changed")
	}
	if !ok && len(got) > 0 {
		t.Fatal("accesses beside false", got)
	}
	answer := slices.Clone(got)
	for at := range got {
		got[at] = Access{To: Form{A: 77}}
	}
	again, ok2 := Accesses(l, cells)
	if ok2 != ok || !slices.Equal(again, answer) {
		t.Fatal("asked again it answers otherwise", answer, again)
	}
	return answer, ok
}

func load(a, c int64) Access  { return Access{To: known(a, c)} }
func store(a, c int64) Access { return Access{Store: true, To: known(a, c)} }
func known(a, c int64) Form   { return Form{Known: true, A: a, C: c} }

// wantAccesses: those of instructions that stand in a row.
func wantAccesses(t *testing.T, l []api.Ins, want ...Access) {
	t.Helper()
	if got, ok := asked(t, l, reds); !ok || !slices.Equal(got, want) {
		t.Errorf("%v: %v %v, not %v", l, got, ok, want)
	}
}

// notTold: neither with many reductions nor with few.
func notTold(t *testing.T, l []api.Ins) {
	t.Helper()
	for _, cells := range []int{reds, api.MaxReds, math.MaxInt, 0, -1, math.MinInt} {
		if got, ok := asked(t, l, cells); ok {
			t.Errorf("%v: told %v", l, got)
		}
	}
}

// P19.1: the chapter's examples, and accesses in order
func TestAccesses(t *testing.T) {
	wantAccesses(t, compiled(t, "m[i] = i * 2;"), store(1, 0))
	wantAccesses(t, compiled(t, "m[i + 1] = m[i];"), load(1, 0), store(1, 1))
	wantAccesses(t, compiled(t, "m[2 * i] = m[2 * i + 1];"), load(2, 1), store(2, 0))
	wantAccesses(t, compiled(t, ""))
	wantAccesses(t, compiled(t, "emit i; into 1 n;"))
	wantAccesses(t, compiled(t, "var x = m[3]; m[x] = 1; m[5 - 3 * i] = m[n] + m[k];"),
		load(0, 3), Access{Store: true}, Access{}, load(0, 0), store(-3, 5))
	wantAccesses(t, listed(t, "store r1 r1 -4; load r3 r1 2; load r4 r3 0; store r4 r4 1; store r4 r2 9; halt"),
		store(1, -4), load(1, 2), Access{}, Access{Store: true}, store(0, 9))
	// just up to the first halt, whatever stands behind it
	wantAccesses(t, listed(t, "load r3 r1 0; halt; load r3 r1 1; store r3 r1 2; halt"), load(1, 0))
	wantAccesses(t, listed(t, "halt; store r1 r1 0; halt"))
}

// P19.1: the address is what B is ahead of the load
func TestLoadIntoItsOwnAddress(t *testing.T) {
	wantAccesses(t, listed(t, "load r1 r1 3; load r1 r1 3; const r1 5; load r1 r1 3; store r1 r1 0; halt"), load(1, 3), Access{}, load(0, 8), Access{Store: true})
}

// ends: instructions that end the telling, as a text's first; each goes on to the third place, where it has a target.
func ends() []string {
	divisions := []string{"div", "rem"}
	l := []string{"jump l2", "zero r1 l2", "other r1 l2", "zero r3 l2", "other r3 l2", "fail r1"}
	for _, op := range divisions {
		for _, right := range []string{"r0", "r1", "r2", "r3"} {
			l = append(l, op+" r4 r3 "+right, op+" r4 r0 "+right, op+" r4 r1 "+right)
		}
	}
	return l
}

// P19.1: each instruction that ends the telling, ahead of the first halt, right ahead of it, and behind it
func TestEnds(t *testing.T) {
	for _, x := range ends() {
		notTold(t, listed(t, x+"; emit r1; l2:; halt"))
		notTold(t, listed(t, x+"; store r1 r1 0; l2:; halt"))
		notTold(t, listed(t, "store r1 r1 0; "+x+"; l2:; halt; halt"))
		notTold(t, listed(t, "store r1 r1 0; emit r1; into r1 1; "+x+"; l2:; load r1 r1 0; halt"))
		wantAccesses(t, listed(t, "store r1 r1 0; halt; "+x+"; l2:; halt"), store(1, 0))
		wantAccesses(t, listed(t, "halt; "+x+"; l2:; store r1 r1 0; halt"))
		wantAccesses(t, listed(t, "l2:; halt; "+x+"; emit r1; jump l2"))
	}
}

// P19.1: no halt at all
func TestNoHalt(t *testing.T) {
	notTold(t, listed(t, "fail r1"))
	notTold(t, listed(t, "l0:; jump l0"))
	notTold(t, listed(t, "store r1 r1 0; emit r1; fail r1"))
	notTold(t, listed(t, "l0:; store r1 r1 0; emit r1; jump l0"))
	notTold(t, listed(t, "l0:; store r1 r1 0; other r1 l0; fail r1"))
	// a halt behind the length isn't one of them
	l := listed(t, "store r1 r1 0; fail r1; halt")
	notTold(t, l[:2])
	l = listed(t, "store r1 r1 0; halt; halt")
	notTold(t, l[:1])
	wantAccesses(t, l[:2], store(1, 0))
}

// P19.1: divisions by one number that isn't 0
func TestDivisions(t *testing.T) {
	for _, op := range []string{"div", "rem"} {
		for _, n := range []string{"1", "-1", "7", "1152921504606846976", "-1152921504606846976"} {
			for _, left := range []string{"r0", "r1", "r2", "r3"} {
				s := "const r3 " + n + "; " + op + " r4 " + left + " r3; store r1 r1 0; halt"
				wantAccesses(t, listed(t, s), store(1, 0))
			}
		}
		// a number that isn't kept isn't known
		for _, n := range []string{"0", "1152921504606846977", "-1152921504606846977", "9223372036854775807", "-9223372036854775808"} {
			notTold(t, listed(t, "const r3 "+n+"; "+op+" r4 r1 r3; halt"))
		}
		// the index less itself is 0, the index and 3 less the index is 3
		notTold(t, listed(t, "sub r3 r1 r1; "+op+" r4 r1 r3; halt"))
		wantAccesses(t, listed(t, "const r3 3; add r3 r1 r3; sub r3 r3 r1; "+op+" r4 r3 r3; load r5 r4 0; halt"), load(0, map[string]int64{"div": 1, "rem": 0}[op]))
		// the divisor is what the register is ahead of the division
		wantAccesses(t, listed(t, "const r3 2; "+op+" r3 r1 r3; halt"))
		notTold(t, listed(t, "const r3 2; "+op+" r3 r1 r3; "+op+" r3 r1 r3; halt"))
	}
}

// P19.1: instructions that may not be, ahead of the first halt and behind it
func TestMayNotBe(t *testing.T) {
	halt := api.Ins{Kind: api.InsHalt}
	for _, x := range []api.Ins{
		{},
		{Kind: -1},
		{Kind: api.InsFail + 1},
		{Kind: math.MaxInt},
		{Kind: math.MinInt},
		{Kind: api.InsConst, A: api.Regs},
		{Kind: api.InsConst, A: -1},
		{Kind: api.InsConst, A: math.MinInt},
		{Kind: api.InsMove, A: 3, B: api.Regs},
		{Kind: api.InsMove, A: 3, B: 4, K: 1},
		{Kind: api.InsOne, Op: api.OpMax, A: 3, B: 3},
		{Kind: api.InsTwo, Op: api.OpNeg, A: 3, B: 3, C: 3},
		{Kind: api.InsTwo, Op: 0, A: 3, B: 3, C: 3},
		{Kind: api.InsTwo, Op: math.MaxInt, A: 3, B: 3, C: 3},
		{Kind: api.InsTwo, Op: api.OpAdd, A: 3, B: 3, C: math.MaxInt},
		{Kind: api.InsLoad, A: 3, B: -1},
		{Kind: api.InsLoad, A: 3, B: 1, C: 1},
		{Kind: api.InsStore, A: api.Regs, B: 1},
		{Kind: api.InsInto, A: 1, C: api.MaxReds},
		{Kind: api.InsInto, A: 1, C: -1},
		{Kind: api.InsEmit, A: 1, B: 1},
		{Kind: api.InsHalt, A: 1},
		{Kind: api.InsJump, K: 9},
		{Kind: api.InsZero, A: 1, K: -1},
	} {
		notTold(t, []api.Ins{x})
		notTold(t, []api.Ins{x, halt})
		notTold(t, []api.Ins{halt, x, halt})
		notTold(t, []api.Ins{{Kind: api.InsStore, A: 1, B: 1}, halt, halt, x, halt})
	}
	notTold(t, nil)
	notTold(t, []api.Ins{})
	notTold(t, []api.Ins{{Kind: api.InsEmit, A: 1}})
	notTold(t, []api.Ins{halt, {Kind: api.InsEmit, A: 1}})
}

// P19.1: as many instructions as may be, and one more
func TestLongest(t *testing.T) {
	var l []api.Ins
	var want []Access
	for at := range api.MaxCode - 1 {
		l = append(l, api.Ins{Kind: api.InsStore, A: 1, B: 1, K: int64(at)})
		want = append(want, store(1, int64(at)))
	}
	l = append(l, api.Ins{Kind: api.InsHalt})
	wantAccesses(t, l, want...)
	notTold(t, append([]api.Ins{{Kind: api.InsEmit}}, l...))
	notTold(t, append(slices.Clone(l), api.Ins{Kind: api.InsHalt}))
}

// P19.1: reductions that there are and aren't
func TestCells(t *testing.T) {
	for c := range api.MaxReds {
		for _, behind := range []bool{false, true} {
			l := []api.Ins{{Kind: api.InsInto, A: 1, C: c}, {Kind: api.InsLoad, A: 3, B: 1}, {Kind: api.InsHalt}}
			want := []Access{load(1, 0)}
			if behind {
				l, want = append([]api.Ins{{Kind: api.InsHalt}}, l...), nil
			}
			for _, cells := range []int{math.MinInt, -1, 0, 1, 2, 3, 4, 5, math.MaxInt} {
				_, e := ins.Check(l, cells)
				if got, ok := asked(t, l, cells); ok != (cells > c) || ok != (e == api.OK) || ok && !slices.Equal(got, want) {
					t.Error(l, cells, got, ok)
				}
			}
		}
	}
}

// P19.1: what is handed in isn't kept
func TestAccessesKeepNothing(t *testing.T) {
	l := listed(t, "load r3 r1 4; store r3 r1 0; halt")
	got, _ := Accesses(l, 0)
	for at := range l {
		l[at] = api.Ins{Kind: api.InsFail}
	}
	if !slices.Equal(got, []Access{load(1, 4), store(1, 0)}) {
		t.Error(got)
	}
}
