package vm

import (
	"math"
	"testing"

	"outrider/api"
)

// endings: listings that end in each of the ways, and their States then, with fuel 3.
func endings() map[string]State {
	regs := [16]int64{1, 2, 3, 5}
	return map[string]State{
		"const r3 5\nhalt":                 {regs, 1, 2, api.Halted, 0},
		"const r3 5\ndiv r3 r3 r9\nhalt":   {regs, 1, 2, api.Divided, 0},
		"const r3 5\nrem r3 r9 r9\nhalt":   {regs, 1, 2, api.Divided, 0},
		"const r3 5\nload r3 r3 -1\nhalt":  {regs, 1, 2, api.Outside, 4},
		"const r3 5\nstore r3 r3 -6\nhalt": {regs, 1, 2, api.Outside, -1},
		"const r3 5\nfail r3":              {regs, 1, 2, api.Failed, 5},
		"const r3 5\nl1:\njump l1":         {regs, 1, 3, api.Spent, 0},
	}
}

// P11.2: a machine that has ended does and wants nothing more; one that is reset does all again
func TestEnded(t *testing.T) {
	first := State{Regs: [16]int64{1, 2, 3}}
	for text, last := range endings() {
		v := made(t, listed(t, text), 3)
		for range 3 {
			is(t, v, first)
			many := 0
			for v.Step(9) {
				many++
			}
			if want := last.Steps; last.Over == api.Spent && many != want+1 || last.Over != api.Spent && many != want {
				t.Errorf("%q: %d steps", text, many)
			}
			for _, got := range []int64{0, 1, least, greatest} {
				is(t, v, last)
				wants(t, v, api.Want{})
				steps(t, v, got, false)
			}
			is(t, v, last)
			v.Reset()
		}
		is(t, v, first)
		v.Reset()
		is(t, v, first)
	}
}

// P11.2: what a machine that has ended stands at, it wants nothing of
func TestEndedWantsNothing(t *testing.T) {
	for _, line := range []string{"load r4 r9 0", "store r1 r9 0", "into r1 2", "emit r1"} {
		v := made(t, listed(t, line+"\nhalt"), 5)
		for over := api.Halted; over <= api.Spent; over++ {
			for _, many := range []int{0, 4, 5} {
				s := State{Regs: [16]int64{1, 2, 3}, Steps: many, Over: over, Value: 8}
				if !v.Set(s) {
					t.Fatal("refused")
				}
				wants(t, v, api.Want{})
				steps(t, v, 6, false)
				is(t, v, s)
			}
		}
	}
}

// P11.2: with as many steps as the fuel nothing is wanted, and no instruction is done
func TestSpent(t *testing.T) {
	for _, line := range []string{"load r4 r9 0", "store r1 r9 0", "into r1 2", "emit r1", "const r4 1", "move r4 r1", "neg r4 r1", "add r4 r1 r1", "div r4 r1 r9", "load r4 r9 4", "store r4 r9 -1", "halt", "fail r1", "l0:\njump l0", "zero r9 l1\nl1:", "other r1 l1\nl1:"} {
		for _, fuel := range []int{1, 2, 4000} {
			v := made(t, listed(t, line+"\nhalt"), fuel)
			s := State{Regs: [16]int64{1, 2, 3}, Steps: fuel, Value: 8}
			if !v.Set(s) {
				t.Fatal("refused")
			}
			wants(t, v, api.Want{})
			is(t, v, s)
			steps(t, v, 6, true)
			s.Over, s.Value = api.Spent, 0
			is(t, v, s)
			steps(t, v, 6, false)
			is(t, v, s)
		}
	}
}

// P11.3: each part at each end of what may be, and beyond; what is refused changes nothing
func TestSet(t *testing.T) {
	v := made(t, listed(t, "const r3 5\nemit r3\nload r4 r1 0\nhalt"), 9)
	steps(t, v, 0, true)
	steps(t, v, 0, true)
	was := v.Now()
	can := func(s State, may bool) {
		t.Helper()
		if v.Set(s) != may {
			t.Errorf("Set(%+v) isn't %v", s, may)
		}
		if may {
			is(t, v, s)
		} else {
			is(t, v, was)
			wants(t, v, api.Want{Kind: api.WantLoad, At: 2})
		}
		if !v.Set(was) {
			t.Error("its own State is refused")
		}
		is(t, v, was)
	}
	for _, at := range []int{math.MinInt, -1 << 32, -1, 4, 5, 600, 1 << 32, math.MaxInt} {
		can(State{At: at}, false)
		can(State{At: at, Over: api.Halted, Steps: 9}, false)
	}
	for _, many := range []int{math.MinInt, -1 << 32, -1, 10, 4000, 1 << 32, math.MaxInt} {
		can(State{Steps: many}, false)
		can(State{Steps: many, At: 3, Over: api.Spent}, false)
	}
	for _, over := range []api.Over{math.MinInt, -1 << 32, -1, 6, 7, 1 << 32, math.MaxInt} {
		can(State{Over: over}, false)
		can(State{Over: over, At: 3, Steps: 9}, false)
	}
	for at := range 4 {
		for many := range 10 {
			for over := api.Going; over <= api.Spent; over++ {
				can(State{At: at, Steps: many, Over: over}, true)
				can(State{full().Regs, at, many, over, least}, true)
			}
		}
	}
	can(State{At: -1, Steps: -1, Over: -1}, false)
	can(State{}, true)
}

// P11.3: fuel and text at their greatest
func TestSetAtLimits(t *testing.T) {
	code := make([]api.Ins, 600)
	for i := range code {
		code[i] = api.Ins{Kind: api.InsHalt}
	}
	v := made(t, code, 4000)
	for _, c := range []struct {
		at, many int
		may      bool
	}{{599, 4000, true}, {600, 4000, false}, {599, 4001, false}, {600, 4001, false}, {0, 0, true}} {
		if v.Set(State{At: c.at, Steps: c.many}) != c.may {
			t.Errorf("%d %d: not %v", c.at, c.many, c.may)
		}
	}
	v = made(t, code[:1], 1)
	for _, c := range []struct {
		at, many int
		may      bool
	}{{0, 1, true}, {1, 1, false}, {0, 2, false}, {0, 0, true}} {
		if v.Set(State{At: c.at, Steps: c.many}) != c.may {
			t.Errorf("%d %d: not %v", c.at, c.many, c.may)
		}
	}
}

// P11.2: Reset behind a step, a State that was set, one that was refused, an end
func TestReset(t *testing.T) {
	first := State{Regs: [16]int64{1, 2, 3}}
	v := made(t, listed(t, "const r0 5\nconst r15 9\nload r1 r14 0\nhalt"), 3)
	for _, before := range []func(){
		func() {}, func() { v.Step(0) }, func() { v.Step(0); v.Step(0); v.Step(7) },
		func() { v.Set(full()) }, func() { v.Set(State{At: 1, Steps: 3}) }, func() { v.Set(State{Over: api.Failed, Value: 4}) }, func() { v.Set(State{At: 9}) }, func() { v.Set(State{Steps: 4}) },
		func() { v.Set(State{At: 1, Steps: 3}); v.Step(0) },
		func() { v.Step(0); v.Set(State{Over: 6}) },
		func() {
			for v.Step(0) {
			}
		},
		func() { v.Want(); v.Now(); v.End() },
		v.Reset,
	} {
		before()
		v.Reset()
		is(t, v, first)
		wants(t, v, api.Want{})
		steps(t, v, 0, true)
		is(t, v, State{Regs: [16]int64{5, 2, 3}, At: 1, Steps: 1})
	}
}

// P2, P11.2: what is done with a machine, or with a State that it answered, is nothing to another
func TestApart(t *testing.T) {
	code := listed(t, "const r3 5\nemit r3\nhalt")
	a, b := made(t, code, 9), made(t, code, 9)
	steps(t, a, 0, true)
	is(t, b, State{Regs: [16]int64{1, 2, 3}})
	s := a.Now()
	s.Regs[3], s.At = 6, 2
	is(t, a, State{Regs: [16]int64{1, 2, 3, 5}, At: 1, Steps: 1})
	if !b.Set(s) {
		t.Fatal("refused")
	}
	s.Regs[3] = 8
	is(t, b, State{Regs: [16]int64{1, 2, 3, 6}, At: 2, Steps: 1})
	is(t, a, State{Regs: [16]int64{1, 2, 3, 5}, At: 1, Steps: 1})
	a.Reset()
	is(t, b, State{Regs: [16]int64{1, 2, 3, 6}, At: 2, Steps: 1})
}
