package vm

import (
	"math"
	"slices"
	"testing"

	"outrider/api"
	"outrider/asm"
)

const (
	least    = math.MinInt64
	greatest = math.MaxInt64
)

// listed: the instructions of a listing.
func listed(t *testing.T, s string) []api.Ins {
	t.Helper()
	code, line, e := asm.Parse(s, 4)
	if e != api.OK {
		t.Fatalf("%q: %d at %d", s, e, line)
	}
	return code
}

// made: a machine with 4 words, and 1, 2, 3 as n, i, k.
func made(t *testing.T, code []api.Ins, fuel int) *VM {
	t.Helper()
	v, e := New(code, 4, 4, fuel, 1, 2, 3)
	if e != api.OK || v == nil {
		t.Fatalf("%v: %v %d", code, v, e)
	}
	return v
}

// is: a machine's State is this one, by Now and by End; asking changes nothing.
func is(t *testing.T, v *VM, s State) {
	t.Helper()
	over, value := v.End()
	if now := v.Now(); now != s || over != s.Over || value != s.Value || v.Now() != s {
		t.Errorf("%+v, %d %d; not %+v", now, over, value, s)
	}
}

func wants(t *testing.T, v *VM, want api.Want) {
	t.Helper()
	was := v.Now()
	if x := v.Want(); x != want || v.Want() != want {
		t.Errorf("%+v wants %+v, not %+v", was, x, want)
	}
	is(t, v, was)
}

func steps(t *testing.T, v *VM, got int64, want bool) {
	t.Helper()
	if v.Step(got) != want {
		t.Errorf("a step isn't %v: %+v", want, v.Now())
	}
}

// P11.1, P11.2: the chapter's examples
func TestExamples(t *testing.T) {
	v, e := New(listed(t, "const r3 5\nload r4 r1 0\nhalt"), 0, 4, 9, 0, 2, 0)
	if e != api.OK {
		t.Fatal(e)
	}
	steps(t, v, 0, true)
	wants(t, v, api.Want{Kind: api.WantLoad, At: 2})
	steps(t, v, 7, true)
	is(t, v, State{Regs: [16]int64{0, 2, 0, 5, 7}, At: 2, Steps: 2})
	v = made(t, listed(t, "l0:\njump l0"), 3)
	for range 4 {
		steps(t, v, 0, true)
	}
	is(t, v, State{Regs: [16]int64{1, 2, 3}, Steps: 3, Over: api.Spent})
	steps(t, v, 0, false)
}

// P11.1: the first State
func TestNew(t *testing.T) {
	halt := []api.Ins{{Kind: api.InsHalt}}
	for _, l := range [][3]int64{{}, {1, 2, 3}, {-1, 0, 0}, {0, least, greatest}, {greatest, least, -7}} {
		v, e := New(halt, 0, 1, 1, l[0], l[1], l[2])
		if e != api.OK {
			t.Fatal(e)
		}
		is(t, v, State{Regs: [16]int64{l[0], l[1], l[2]}})
		wants(t, v, api.Want{})
	}
}

func news(t *testing.T, code []api.Ins, cells, words, fuel int, want api.Errno) {
	t.Helper()
	was := slices.Clone(code)
	v, e := New(code, cells, words, fuel, 0, 0, 0)
	if e != want || (v != nil) != (want == api.OK) {
		t.Errorf("New(%v, %d, %d, %d): %v %d, not %d", code, cells, words, fuel, v, e, want)
	}
	if !slices.Equal(code, was) {
		t.Error("New has changed what it was handed")
	}
}

// P11.1: words and fuel at each end of what may be, and beyond
func TestNewBounds(t *testing.T) {
	halt := []api.Ins{{Kind: api.InsHalt}}
	for _, words := range []int{math.MinInt, -1, 0, 65, 66, 1 << 32, 1<<32 + 1, math.MaxInt} {
		for _, fuel := range []int{-1, 0, 1, 4000, 4001} {
			news(t, halt, 0, words, fuel, api.ErrWords)
		}
	}
	for _, words := range []int{1, 2, 63, 64} {
		for _, fuel := range []int{math.MinInt, -1, 0, 4001, 1 << 32, 1<<32 + 1, math.MaxInt} {
			news(t, halt, 0, words, fuel, api.ErrFuel)
		}
		for _, fuel := range []int{1, 2, 3999, 4000} {
			news(t, halt, 0, words, fuel, api.OK)
		}
	}
}

// P11.1: layer 8's errors, ahead of the others
func TestNewRefuses(t *testing.T) {
	halt := api.Ins{Kind: api.InsHalt}
	for _, c := range []struct {
		code  []api.Ins
		cells int
		want  api.Errno
	}{
		{nil, 4, api.ErrLen}, {[]api.Ins{}, 4, api.ErrLen}, {slices.Repeat([]api.Ins{halt}, 601), 4, api.ErrLen},
		{[]api.Ins{{}}, 4, api.ErrOp}, {[]api.Ins{{Kind: 14}}, 4, api.ErrOp}, {[]api.Ins{{Kind: api.InsTwo, Op: api.OpNeg}, halt}, 4, api.ErrOp}, {[]api.Ins{halt, {Kind: -1}}, 4, api.ErrOp},
		{[]api.Ins{{Kind: api.InsFail, A: 16}}, 4, api.ErrReg}, {[]api.Ins{{Kind: api.InsLoad, B: -1}, halt}, 4, api.ErrReg},
		{[]api.Ins{{Kind: api.InsHalt, K: 1}}, 4, api.ErrUnused},
		{[]api.Ins{{Kind: api.InsInto, C: 2}, halt}, 2, api.ErrCell}, {[]api.Ins{{Kind: api.InsInto}, halt}, 0, api.ErrCell}, {[]api.Ins{{Kind: api.InsInto}, halt}, -1, api.ErrCell}, {[]api.Ins{{Kind: api.InsInto, C: 4}, halt}, math.MaxInt, api.ErrCell},
		{[]api.Ins{{Kind: api.InsJump, K: 1}}, 4, api.ErrTarget}, {[]api.Ins{{Kind: api.InsJump, K: -1}}, 4, api.ErrTarget},
		{[]api.Ins{{Kind: api.InsEmit}}, 4, api.ErrFall}, {[]api.Ins{halt, {Kind: api.InsZero}}, 4, api.ErrFall},
	} {
		for _, words := range []int{0, 1, 64, 65} {
			for _, fuel := range []int{0, 1, 4000, 4001} {
				news(t, c.code, c.cells, words, fuel, c.want)
			}
		}
	}
	news(t, slices.Repeat([]api.Ins{halt}, 600), 0, 64, 4000, api.OK)
	news(t, []api.Ins{{Kind: api.InsInto, C: 3}, halt}, 4, 1, 1, api.OK)
	news(t, []api.Ins{halt, {Kind: 99}}[:1], 0, 1, 1, api.OK) // what lies behind the length isn't looked at
}

// P11.5: what is handed in isn't kept
func TestNewKeepsNothing(t *testing.T) {
	code := listed(t, "emit r1\nemit r2\nhalt")
	v := made(t, code, 9)
	clear(code)
	wants(t, v, api.Want{Kind: api.WantEmit, Value: 2})
	steps(t, v, 0, true)
	wants(t, v, api.Want{Kind: api.WantEmit, Value: 3})
	steps(t, v, 0, true)
	steps(t, v, 0, true)
	is(t, v, State{Regs: [16]int64{1, 2, 3}, At: 2, Steps: 3, Over: api.Halted})
}

// one: what a machine wants ahead of an instruction at 2 of 5, and its State behind it.
type one struct {
	x    api.Ins
	want api.Want
	then State
}

// full: a State with another number in each register.
func full() State {
	s := State{At: 2, Steps: 5, Value: 77}
	s.Regs = [16]int64{10, 11, 12, 0, -14, 2, 3, 0, 1, -1, 20, least, greatest, 23, 24, 25}
	return s
}

// then: full, a step further, at a place.
func then(at int) State {
	s := full()
	s.Steps, s.At = 6, at
	return s
}

// with: then, with another number in a register.
func with(r int, value int64) State {
	s := then(3)
	s.Regs[r] = value
	return s
}

// ends: full, a step further, that has ended so.
func ends(over api.Over, value int64) State {
	s := then(2)
	s.Over, s.Value = over, value
	return s
}

func (c one) does(t *testing.T) {
	t.Helper()
	code := slices.Repeat([]api.Ins{{Kind: api.InsHalt}}, 5)
	code[2] = c.x
	for _, got := range []int64{0, 99, least, greatest} {
		v := made(t, code, 9)
		if !v.Set(full()) {
			t.Fatal("refused")
		}
		wants(t, v, c.want)
		steps(t, v, got, true)
		if c.x.Kind == api.InsLoad && c.then.Over == api.Going {
			c.then.Regs[c.x.A] = got
		}
		if now := v.Now(); now != c.then {
			t.Errorf("%+v: %+v, not %+v", c.x, now, c.then)
		}
		is(t, v, c.then)
	}
}

// P11.2: each kind
func TestKinds(t *testing.T) {
	for _, c := range []one{
		{api.Ins{Kind: api.InsHalt}, api.Want{}, ends(api.Halted, 0)},
		{api.Ins{Kind: api.InsConst, A: 4, K: 5}, api.Want{}, with(4, 5)},
		{api.Ins{Kind: api.InsConst, A: 0, K: least}, api.Want{}, with(0, least)},
		{api.Ins{Kind: api.InsConst, A: 15, K: greatest}, api.Want{}, with(15, greatest)},
		{api.Ins{Kind: api.InsMove, A: 4, B: 13}, api.Want{}, with(4, 23)},
		{api.Ins{Kind: api.InsMove, A: 13, B: 4}, api.Want{}, with(13, -14)},
		{api.Ins{Kind: api.InsMove, A: 0, B: 15}, api.Want{}, with(0, 25)},
		{api.Ins{Kind: api.InsMove, A: 4, B: 4}, api.Want{}, then(3)},
		{api.Ins{Kind: api.InsOne, Op: api.OpNeg, A: 4, B: 13}, api.Want{}, with(4, -23)},
		{api.Ins{Kind: api.InsOne, Op: api.OpNeg, A: 13, B: 13}, api.Want{}, with(13, -23)},
		{api.Ins{Kind: api.InsTwo, Op: api.OpSub, A: 4, B: 13, C: 10}, api.Want{}, with(4, 3)},
		{api.Ins{Kind: api.InsTwo, Op: api.OpSub, A: 13, B: 13, C: 10}, api.Want{}, with(13, 3)},
		{api.Ins{Kind: api.InsTwo, Op: api.OpSub, A: 10, B: 13, C: 10}, api.Want{}, with(10, 3)},
		{api.Ins{Kind: api.InsTwo, Op: api.OpAdd, A: 13, B: 13, C: 13}, api.Want{}, with(13, 46)},
		{api.Ins{Kind: api.InsTwo, Op: api.OpAdd, A: 15, B: 0, C: 14}, api.Want{}, with(15, 34)},
		{api.Ins{Kind: api.InsLoad, A: 4, B: 5}, api.Want{Kind: api.WantLoad, At: 2}, then(3)},
		{api.Ins{Kind: api.InsLoad, A: 5, B: 5, K: 1}, api.Want{Kind: api.WantLoad, At: 3}, then(3)},
		{api.Ins{Kind: api.InsStore, A: 4, B: 5}, api.Want{Kind: api.WantStore, At: 2, Value: -14}, then(3)},
		{api.Ins{Kind: api.InsStore, A: 5, B: 5, K: -1}, api.Want{Kind: api.WantStore, At: 1, Value: 2}, then(3)},
		{api.Ins{Kind: api.InsInto, A: 4, C: 3}, api.Want{Kind: api.WantInto, At: 3, Value: -14}, then(3)},
		{api.Ins{Kind: api.InsInto, A: 11}, api.Want{Kind: api.WantInto, Value: least}, then(3)},
		{api.Ins{Kind: api.InsEmit, A: 4}, api.Want{Kind: api.WantEmit, Value: -14}, then(3)},
		{api.Ins{Kind: api.InsEmit, A: 3}, api.Want{Kind: api.WantEmit}, then(3)},
		{api.Ins{Kind: api.InsFail, A: 4}, api.Want{}, ends(api.Failed, -14)},
		{api.Ins{Kind: api.InsFail, A: 3}, api.Want{}, ends(api.Failed, 0)},
		{api.Ins{Kind: api.InsFail, A: 12}, api.Want{}, ends(api.Failed, greatest)},
	} {
		c.does(t)
	}
	for at := range 5 {
		k := int64(at)
		one{api.Ins{Kind: api.InsJump, K: k}, api.Want{}, then(at)}.does(t)
		for r, n := range full().Regs {
			zero, other := 3, at
			if n == 0 {
				zero, other = at, 3
			}
			one{api.Ins{Kind: api.InsZero, A: r, K: k}, api.Want{}, then(zero)}.does(t)
			one{api.Ins{Kind: api.InsOther, A: r, K: k}, api.Want{}, then(other)}.does(t)
		}
	}
}

// P11.2: each operation of one
func TestOne(t *testing.T) {
	for _, c := range []struct {
		op      api.Op
		a, want int64
	}{
		{api.OpNeg, 5, -5}, {api.OpNeg, -5, 5}, {api.OpNeg, 0, 0}, {api.OpNeg, least, least}, {api.OpNeg, greatest, least + 1},
		{api.OpCom, 5, -6}, {api.OpCom, 0, -1}, {api.OpCom, least, greatest},
		{api.OpNot, 0, 1}, {api.OpNot, 1, 0}, {api.OpNot, -5, 0}, {api.OpNot, least, 0},
	} {
		v := made(t, []api.Ins{{Kind: api.InsOne, Op: c.op, A: 7, B: 9}, {Kind: api.InsHalt}}, 9)
		s := State{Regs: [16]int64{9: c.a}}
		if !v.Set(s) || !v.Step(0) {
			t.Fatal("refused")
		}
		s.Regs[7], s.At, s.Steps = c.want, 1, 1
		is(t, v, s)
	}
}

// P11.2: each operation of two, and what divides by 0
func TestTwo(t *testing.T) {
	for _, c := range []struct {
		op         api.Op
		a, b, want int64
	}{
		{api.OpAdd, 5, -7, -2}, {api.OpAdd, greatest, 1, least}, {api.OpSub, 5, 7, -2}, {api.OpSub, least, 1, greatest}, {api.OpMul, 5, -7, -35}, {api.OpMul, least, -1, least}, {api.OpMul, 1 << 62, 6, least},
		{api.OpDiv, -7, 2, -3}, {api.OpDiv, 7, -2, -3}, {api.OpDiv, least, -1, least}, {api.OpDiv, 0, 5, 0}, {api.OpRem, -7, 2, -1}, {api.OpRem, 7, -2, 1}, {api.OpRem, least, -1, 0},
		{api.OpAnd, 12, 10, 8}, {api.OpOr, 12, 10, 14}, {api.OpXor, 12, 10, 6},
		{api.OpShl, 3, 2, 12}, {api.OpShl, 3, 66, 12}, {api.OpShl, 1, -1, least}, {api.OpShr, -7, 1, -4}, {api.OpShr, -7, 65, -4}, {api.OpShr, least, 63, -1},
		{api.OpEq, 4, 4, 1}, {api.OpEq, 4, 5, 0}, {api.OpNe, 4, 4, 0}, {api.OpNe, 4, 5, 1},
		{api.OpLt, 4, 5, 1}, {api.OpLt, 5, 5, 0}, {api.OpLt, 5, 4, 0}, {api.OpLe, 4, 5, 1}, {api.OpLe, 5, 5, 1}, {api.OpLe, 5, 4, 0},
		{api.OpGt, 4, 5, 0}, {api.OpGt, 5, 5, 0}, {api.OpGt, 5, 4, 1}, {api.OpGe, 4, 5, 0}, {api.OpGe, 5, 5, 1}, {api.OpGe, 5, 4, 1},
		{api.OpMin, 4, -5, -5}, {api.OpMin, least, greatest, least}, {api.OpMax, 4, -5, 4}, {api.OpMax, least, greatest, greatest},
	} {
		v := made(t, []api.Ins{{Kind: api.InsTwo, Op: c.op, A: 7, B: 9, C: 8}, {Kind: api.InsHalt}}, 9)
		s := State{Regs: [16]int64{9: c.a, 8: c.b}}
		if !v.Set(s) || !v.Step(0) {
			t.Fatal("refused")
		}
		s.Regs[7], s.At, s.Steps = c.want, 1, 1
		is(t, v, s)
	}
	for _, r := range []int{0, 3, 4, 11, 12} {
		for op := api.OpAdd; op <= api.OpMax; op++ {
			if op == api.OpDiv || op == api.OpRem {
				one{api.Ins{Kind: api.InsTwo, Op: op, A: 4, B: r, C: 3}, api.Want{}, ends(api.Divided, 0)}.does(t)
			}
		}
	}
}

// P11.2: an address that is inside, one that isn't, and one that goes round
func TestAddresses(t *testing.T) {
	for _, words := range []int{1, 2, 63, 64} {
		top := int64(words)
		for _, c := range []struct{ b, k, at int64 }{
			{0, 0, 0}, {0, -1, -1}, {-1, 0, -1}, {-1, 1, 0}, {1, -1, 0}, {0, top - 1, top - 1}, {top - 1, 0, top - 1}, {0, top, top}, {top, 0, top}, {top, -1, top - 1}, {top + 1, -1, top}, {1, top - 1, top},
			{0, least, least}, {0, greatest, greatest}, {least, 0, least}, {greatest, 0, greatest}, {greatest, 1, least}, {least, -1, greatest}, {greatest, least, -1}, {greatest, least + 1, 0}, {least, greatest, -1},
			{least, least, 0}, {least, least + top - 1, top - 1}, {least, least + top, top}, {greatest, greatest, -2}, {1 << 62, 1 << 62, least}, {1 << 32, 0, 1 << 32}, {1 << 32, -1 << 32, 0}, {-1 << 32, 0, -1 << 32}, {1<<32 + 1, 0, 1<<32 + 1}, {1 << 8, 0, 1 << 8}, {1 << 16, 0, 1 << 16},
		} {
			for _, kind := range []api.InsKind{api.InsLoad, api.InsStore} {
				reaches(t, kind, words, c.b, c.k, c.at)
			}
		}
	}
}

func reaches(t *testing.T, kind api.InsKind, words int, b, k, at int64) {
	t.Helper()
	v, e := New([]api.Ins{{Kind: kind, A: 6, B: 7, K: k}, {Kind: api.InsHalt}}, 0, words, 9, 1, 2, 3)
	if e != api.OK {
		t.Fatal(e)
	}
	s := State{Regs: [16]int64{6: 600, 7: b}}
	if !v.Set(s) {
		t.Fatal("refused")
	}
	s.Steps = 1
	if at < 0 || at >= int64(words) {
		wants(t, v, api.Want{})
		s.Over, s.Value = api.Outside, at
	} else if kind == api.InsLoad {
		wants(t, v, api.Want{Kind: api.WantLoad, At: int(at)})
		s.Regs[6], s.At = 900, 1
	} else {
		wants(t, v, api.Want{Kind: api.WantStore, At: int(at), Value: 600})
		s.At = 1
	}
	steps(t, v, 900, true)
	is(t, v, s)
}

// P11.2: so many steps as the fuel says, and one that ends it
func TestFuel(t *testing.T) {
	for _, fuel := range []int{1, 2, 3, 3999, 4000} {
		v := made(t, listed(t, "l0:\nemit r1\njump l0"), fuel)
		for n := range fuel {
			if n%2 == 0 {
				wants(t, v, api.Want{Kind: api.WantEmit, Value: 2})
			} else {
				wants(t, v, api.Want{})
			}
			steps(t, v, 0, true)
			is(t, v, State{Regs: [16]int64{1, 2, 3}, At: (n + 1) % 2, Steps: n + 1})
		}
		wants(t, v, api.Want{})
		steps(t, v, 0, true)
		is(t, v, State{Regs: [16]int64{1, 2, 3}, At: fuel % 2, Steps: fuel, Over: api.Spent})
		wants(t, v, api.Want{})
		steps(t, v, 0, false)
		is(t, v, State{Regs: [16]int64{1, 2, 3}, At: fuel % 2, Steps: fuel, Over: api.Spent})
	}
	// the last step that there is ends it as it would with more
	for _, c := range []struct {
		last  string
		over  api.Over
		value int64
	}{{"halt", api.Halted, 0}, {"fail r2", api.Failed, 3}, {"load r4 r1 9\nhalt", api.Outside, 11}, {"div r4 r1 r5\nhalt", api.Divided, 0}} {
		v := made(t, listed(t, "emit r1\n"+c.last), 2)
		steps(t, v, 0, true)
		steps(t, v, 0, true)
		is(t, v, State{Regs: [16]int64{1, 2, 3}, At: 1, Steps: 2, Over: c.over, Value: c.value})
		steps(t, v, 0, false)
	}
}
