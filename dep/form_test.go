package dep

import (
	"math"
	"math/big"
	"slices"
	"testing"

	"outrider/api"
	"outrider/num"
)

const (
	two30 = 1 << 30
	two60 = 1 << 60
)

func constant(a int, n int64) api.Ins { return api.Ins{Kind: api.InsConst, A: a, K: n} }
func moving(a, b int) api.Ins         { return api.Ins{Kind: api.InsMove, A: a, B: b} }

func one(op api.Op, a, b int) api.Ins    { return api.Ins{Kind: api.InsOne, Op: op, A: a, B: b} }
func two(op api.Op, a, b, c int) api.Ins { return api.Ins{Kind: api.InsTwo, Op: op, A: a, B: b, C: c} }

// making: instructions behind which a register is a form that is kept, or isn't known; the registers 13, 14 are used for it.
func making(r int, f Form) []api.Ins {
	if !f.Known {
		return []api.Ins{moving(r, 0)}
	}
	if f.A == 0 {
		return []api.Ins{constant(r, f.C)}
	}
	return []api.Ins{
		constant(13, f.A), two(api.OpMul, 13, 1, 13),
		constant(14, f.C), two(api.OpAdd, r, 13, 14),
	}
}

// registers: what all of them are behind instructions.
func registers(t *testing.T, l ...api.Ins) ([api.Regs]Form, bool) {
	t.Helper()
	var all [api.Regs]Form
	l = slices.Clone(l)
	for r := range api.Regs {
		l = append(l, api.Ins{Kind: api.InsStore, A: 0, B: r}) // a store sets none
	}
	got, ok := asked(t, append(l, api.Ins{Kind: api.InsHalt}), api.MaxReds)
	if !ok {
		return all, false
	}
	for r, x := range got[len(got)-api.Regs:] {
		all[r] = x.To
	}
	return all, true
}

// wantForm: what the register 5 is behind instructions.
func wantForm(t *testing.T, want Form, l ...api.Ins) {
	t.Helper()
	if all, ok := registers(t, l...); !ok || all[5] != want {
		t.Errorf("%v: %v %v, not %v", l, all[5], ok, want)
	}
}

// first: what the registers are ahead of all instructions.
func first() [api.Regs]Form {
	var all [api.Regs]Form
	for r := range all {
		all[r] = known(0, 0)
	}
	all[0], all[1] = Form{}, known(1, 0)
	return all
}

// P19.1: what each register is ahead of the instructions
func TestFirstRegisters(t *testing.T) {
	if all, ok := registers(t); !ok || all != first() {
		t.Error(all, ok)
	}
	for r := range api.Regs {
		wantForm(t, first()[r], moving(5, r))
	}
}

// P19.1: each instruction sets its own register alone, or none
func TestOthersStay(t *testing.T) {
	start := []api.Ins{constant(2, 9), two(api.OpAdd, 3, 1, 1), constant(7, -4)}
	was, _ := registers(t, start...)
	for _, x := range []struct {
		ins api.Ins
		set Form
	}{
		{constant(4, 11), known(0, 11)},
		{moving(4, 3), known(2, 0)},
		{one(api.OpNeg, 4, 3), known(-2, 0)},
		{one(api.OpCom, 4, 7), known(0, 3)},
		{two(api.OpSub, 4, 3, 7), known(2, 4)},
		{api.Ins{Kind: api.InsLoad, A: 4, B: 1}, Form{}},
		{api.Ins{Kind: api.InsStore, A: 4, B: 1}, known(0, 0)},
		{api.Ins{Kind: api.InsInto, A: 4, C: 1}, known(0, 0)},
		{api.Ins{Kind: api.InsEmit, A: 4}, known(0, 0)},
	} {
		want := was
		want[4] = x.set
		if all, ok := registers(t, append(slices.Clone(start), x.ins)...); !ok || all != want {
			t.Error(x.ins, all, ok)
		}
	}
}

// P19.1: the index, the age and the stage are registers as others
func TestSetAnew(t *testing.T) {
	all, _ := registers(t, constant(0, 6), moving(3, 1), constant(1, 7), api.Ins{Kind: api.InsLoad, A: 2, B: 1})
	want := first()
	want[0], want[1], want[2], want[3] = known(0, 6), known(0, 7), Form{}, known(1, 0)
	if all != want {
		t.Error(all)
	}
	wantForm(t, known(0, 3), api.Ins{Kind: api.InsLoad, A: 5, B: 1}, constant(5, 3))
	wantForm(t, known(1, 0), api.Ins{Kind: api.InsLoad, A: 5, B: 1}, moving(5, 1))
	wantForm(t, Form{}, moving(1, 0), moving(5, 1))
}

// P19.1: numbers at the bounds and one further, by InsConst
func TestKeptNumbers(t *testing.T) {
	for _, n := range []int64{0, 1, -1, two30 + 1, two60 - 1, 1 - two60, two60, -two60} {
		wantForm(t, known(0, n), constant(5, n))
	}
	for _, n := range []int64{two60 + 1, -two60 - 1, 1 << 61, -1 << 61, math.MaxInt64, math.MinInt64} {
		wantForm(t, Form{}, constant(5, n))
	}
}

// P19.1: A at the bounds and one further, by each operation that can lead there
func TestKeptA(t *testing.T) {
	for _, side := range []int64{1, -1} {
		most := making(3, known(side*two30, 3))
		with := func(l ...api.Ins) []api.Ins { return append(slices.Clone(most), l...) }
		wantForm(t, known(side*two30, 3), with(moving(5, 3))...)
		wantForm(t, known(-side*two30, -3), with(one(api.OpNeg, 5, 3))...)
		by := making(4, known(side, 0))
		out, in := api.OpAdd, api.OpSub
		wantForm(t, Form{}, with(append(by, two(out, 5, 3, 4))...)...)
		wantForm(t, Form{}, with(append(by, two(out, 5, 4, 3))...)...)
		wantForm(t, known(side*(two30-1), 3), with(append(by, two(in, 5, 3, 4))...)...)
		wantForm(t, known(-side*(two30-1), -3), with(append(by, two(in, 5, 4, 3))...)...)
		back := making(4, known(-side, 0))
		wantForm(t, Form{}, with(append(back, two(api.OpSub, 5, 3, 4))...)...)
		wantForm(t, Form{}, with(append(back, two(api.OpSub, 5, 4, 3))...)...)
		// by a product: 2^15 times 2^15, and 2 times as much; the index times 2^30 and one further
		half := making(3, known(side<<15, 0))
		wantForm(t, known(side*two30, 0), append(half, constant(4, 1<<15), two(api.OpMul, 5, 3, 4))...)
		wantForm(t, Form{}, append(half, constant(4, 1<<15+1), two(api.OpMul, 5, 3, 4))...)
		wantForm(t, Form{}, append(half, constant(4, -1<<15-1), two(api.OpMul, 5, 4, 3))...)
		wantForm(t, known(side*two30, 0), constant(4, side*two30), two(api.OpMul, 5, 1, 4))
		wantForm(t, Form{}, constant(4, side*(two30+1)), two(api.OpMul, 5, 1, 4))
	}
}

// P19.1: C at the bounds and one further, with A 0 and with another A
func TestKeptC(t *testing.T) {
	for _, side := range []int64{1, -1} {
		for _, a := range []int64{0, 1, -7, two30} {
			most := making(3, known(a, side*two60))
			with := func(l ...api.Ins) []api.Ins { return append(slices.Clone(most), l...) }
			wantForm(t, known(a, side*two60), with(moving(5, 3))...)
			wantForm(t, known(-a, -side*two60), with(one(api.OpNeg, 5, 3))...)
			wantForm(t, Form{}, with(constant(4, side), two(api.OpAdd, 5, 3, 4))...)
			wantForm(t, Form{}, with(constant(4, side), two(api.OpAdd, 5, 4, 3))...)
			wantForm(t, Form{}, with(constant(4, -side), two(api.OpSub, 5, 3, 4))...)
			wantForm(t, Form{}, with(constant(4, -side), two(api.OpSub, 5, 4, 3))...)
			wantForm(t, known(a, side*(two60-1)), with(constant(4, -side), two(api.OpAdd, 5, 3, 4))...)
			wantForm(t, known(a, side*(two60-1)), with(constant(4, side), two(api.OpSub, 5, 3, 4))...)
			wantForm(t, known(-a, -side*(two60-1)), with(constant(4, side), two(api.OpSub, 5, 4, 3))...)
		}
	}
}

// P19.1: what isn't kept isn't known from then on, also if it comes back
func TestNotKeptStays(t *testing.T) {
	wantForm(t, Form{}, constant(3, two60), constant(4, 1), two(api.OpAdd, 5, 3, 4), two(api.OpSub, 5, 5, 4))
	wantForm(t, Form{}, constant(3, two60), two(api.OpAdd, 3, 1, 3), constant(4, 1), two(api.OpAdd, 5, 3, 4), two(api.OpSub, 5, 5, 5))
	wantForm(t, Form{}, constant(3, math.MaxInt64), constant(4, 1), two(api.OpShr, 5, 3, 4))
	wantForm(t, Form{}, moving(3, 0), two(api.OpSub, 5, 3, 3))
	wantForm(t, Form{}, moving(3, 0), two(api.OpMul, 5, 3, 4))
}

// P19.1: products with one number of just 2^30, and one further, on either side
func TestProducts(t *testing.T) {
	for _, swapped := range []bool{false, true} {
		mul := two(api.OpMul, 5, 3, 4)
		if swapped {
			mul = two(api.OpMul, 5, 4, 3)
		}
		is := func(f Form, n int64, want Form) {
			t.Helper()
			wantForm(t, want, append(making(3, f), constant(4, n), mul)...)
		}
		is(known(1, 0), 6, known(6, 0))
		is(known(-3, 5), -2, known(6, -10))
		is(known(7, 9), 0, known(0, 0))
		is(known(two30, two30), 0, known(0, 0))
		is(known(two30, -two30), 1, known(two30, -two30))
		is(known(two30, 1), -1, known(-two30, -1))
		is(known(two30, 0), 2, Form{})
		for _, side := range []int64{1, -1} {
			is(known(1, 0), side*two30, known(side*two30, 0))
			is(known(1, 0), side*(two30+1), Form{})
			is(known(1, two30), side*two30, known(side*two30, side*two60))
			is(known(-1, -two30), side*two30, known(-side*two30, -side*two60))
			is(known(1, side*(two30+1)), 1, Form{})
			is(known(1, side*(two30+1)), 0, Form{})
			is(known(1, side*two30), 1, known(1, side*two30))
			is(known(1, side*two30), 0, known(0, 0))
			is(known(1, side*two60), 1, Form{})
			is(known(1, 0), side*two60, Form{})
			// of two numbers the product is told, however far they are
			is(known(0, side*(two30+1)), 3, known(0, side*(3*two30+3)))
			is(known(0, side*two60), 1, known(0, side*two60))
			is(known(0, side*two60), 0, known(0, 0))
			is(known(0, side*two60), 2, Form{})
		}
	}
	// two forms, none of which is one number
	wantForm(t, Form{}, two(api.OpMul, 5, 1, 1))
	wantForm(t, Form{}, append(making(3, known(2, 3)), two(api.OpMul, 5, 1, 3))...)
}

// P19.1: numbers that go round, and are then kept or not
func TestRound(t *testing.T) {
	wantForm(t, known(0, 0), constant(3, two60), two(api.OpMul, 5, 3, 3))
	wantForm(t, known(0, 0), constant(3, 1<<32), two(api.OpMul, 5, 3, 3))
	wantForm(t, Form{}, constant(3, 1<<31), constant(4, 1<<32), two(api.OpMul, 5, 3, 4))
	wantForm(t, known(0, 1<<46), constant(3, 1<<40+1<<58), constant(4, 64), two(api.OpMul, 5, 3, 4))
	wantForm(t, known(0, 64), constant(3, 1<<58+1), constant(4, 64), two(api.OpMul, 5, 3, 4))
	wantForm(t, known(0, 64), constant(3, 1<<58+1), constant(4, 6), two(api.OpShl, 5, 3, 4))
	wantForm(t, Form{}, constant(3, 1), constant(4, 63), two(api.OpShl, 5, 3, 4))
	wantForm(t, known(0, two60), constant(3, 1), constant(4, 60), two(api.OpShl, 5, 3, 4))
	wantForm(t, Form{}, constant(3, 1), constant(4, 61), two(api.OpShl, 5, 3, 4))
	wantForm(t, known(0, -two60), constant(3, -1), constant(4, 124), two(api.OpShl, 5, 3, 4))
}

// P19.1: operations of one, of each kind of form
func TestOne(t *testing.T) {
	for _, n := range []int64{0, 1, -1, 5, -two30, two60 - 1, two60, -two60} {
		wantForm(t, known(0, -n), constant(3, n), one(api.OpNeg, 5, 3))
		not := int64(0)
		if n == 0 {
			not = 1
		}
		wantForm(t, known(0, not), constant(3, n), one(api.OpNot, 5, 3))
		com := known(0, -n-1)
		if n == two60 {
			com = Form{}
		}
		wantForm(t, com, constant(3, n), one(api.OpCom, 5, 3))
	}
	for _, f := range []Form{known(1, 0), known(-1, 0), known(3, -8), known(-two30, two60), known(two30, -two60)} {
		wantForm(t, known(-f.A, -f.C), append(making(3, f), one(api.OpNeg, 5, 3))...)
		wantForm(t, Form{}, append(making(3, f), one(api.OpCom, 5, 3))...)
		wantForm(t, Form{}, append(making(3, f), one(api.OpNot, 5, 3))...)
	}
	for op := api.OpNeg; op <= api.OpNot; op++ {
		wantForm(t, Form{}, one(op, 5, 0))
		// in its own place, too
		wantForm(t, Form{}, moving(5, 0), one(op, 5, 5))
	}
	wantForm(t, known(-1, 0), moving(5, 1), one(api.OpNeg, 5, 5))
}

// pool: forms of all kinds, for operations of two.
func pool() []Form {
	l := []Form{{}}
	for _, a := range []int64{0, 1, -1, 2, two30 - 1, two30, -two30, 1 << 29, 1<<29 + 1} {
		for _, c := range []int64{0, 1, -1, 2, -7, 64, two30, two30 + 1, -two30, -two30 - 1, 1<<59 + 1, two60, -two60, -two60 + 1} {
			l = append(l, known(a, c))
		}
	}
	return l
}

// within: is a number no further from 0 than this one?
func within(n *big.Int, most int64) bool { return n.CmpAbs(big.NewInt(most)) <= 0 }

// wide: the form of numbers of any size.
func wide(a, c *big.Int) Form {
	if !within(a, two30) || !within(c, two60) {
		return Form{}
	}
	return known(a.Int64(), c.Int64())
}

// bigTwo: what comes of two forms, by numbers that don't go round; false, where the telling ends.
func bigTwo(op api.Op, f, g Form) (Form, bool) {
	if (op == api.OpDiv || op == api.OpRem) && (!g.Known || g.A != 0 || g.C == 0) {
		return Form{}, false
	}
	if !f.Known || !g.Known {
		return Form{}, true
	}
	if f.A == 0 && g.A == 0 {
		n, _ := num.Two(op, f.C, g.C)
		return wide(new(big.Int), big.NewInt(n)), true
	}
	fa, fc, ga, gc := big.NewInt(f.A), big.NewInt(f.C), big.NewInt(g.A), big.NewInt(g.C)
	switch op {
	case api.OpAdd:
		return wide(fa.Add(fa, ga), fc.Add(fc, gc)), true
	case api.OpSub:
		return wide(fa.Sub(fa, ga), fc.Sub(fc, gc)), true
	case api.OpMul:
		if !within(fc, two30) || !within(gc, two30) || f.A != 0 && g.A != 0 {
			return Form{}, true
		}
		a := new(big.Int).Add(new(big.Int).Mul(fa, gc), new(big.Int).Mul(ga, fc))
		return wide(a, fc.Mul(fc, gc)), true
	}
	return Form{}, true
}

// P19.1: each operation of two, of all pairs of the pool
func TestTwo(t *testing.T) {
	for _, f := range pool() {
		for _, g := range pool() {
			start := append(making(3, f), making(4, g)...)
			for op := api.OpAdd; op <= api.OpMax; op++ {
				want, goesOn := bigTwo(op, f, g)
				l := append(slices.Clone(start), two(op, 5, 3, 4), api.Ins{Kind: api.InsStore, B: 5}, api.Ins{Kind: api.InsHalt})
				got, ok := Accesses(l, 0)
				if ok != goesOn || ok && (len(got) != 1 || got[0].To != want) {
					t.Fatalf("%d of %v and %v: %v %v, not %v %v", op, f, g, got, ok, want, goesOn)
				}
			}
		}
	}
}

// P19.1: of one form and itself, also in its own place
func TestTwoOfItself(t *testing.T) {
	wantForm(t, known(2, 0), two(api.OpAdd, 5, 1, 1))
	wantForm(t, known(0, 0), two(api.OpSub, 5, 1, 1))
	wantForm(t, known(4, 0), moving(5, 1), two(api.OpAdd, 5, 5, 5), two(api.OpAdd, 5, 5, 5))
	wantForm(t, known(0, 9), constant(5, 3), two(api.OpMul, 5, 5, 5))
	for op := api.OpAdd; op <= api.OpMax; op++ {
		if op == api.OpDiv || op == api.OpRem {
			continue
		}
		wantForm(t, Form{}, two(op, 5, 0, 0))
		wantForm(t, Form{}, two(op, 5, 0, 1))
		wantForm(t, Form{}, two(op, 5, 1, 0))
		wantForm(t, Form{}, two(op, 5, 0, 3))
		wantForm(t, Form{}, two(op, 5, 3, 0))
	}
}

// addressed: where a load and a store of B and K go.
func addressed(t *testing.T, f Form, k int64, want Form) {
	t.Helper()
	l := append(making(5, f), api.Ins{Kind: api.InsLoad, A: 6, B: 5, K: k}, api.Ins{Kind: api.InsStore, A: 6, B: 5, K: k}, api.Ins{Kind: api.InsHalt})
	wantAccesses(t, l, Access{To: want}, Access{Store: true, To: want})
}

// P19.1: addresses, and those whose number or whose sum isn't kept
func TestAddresses(t *testing.T) {
	for _, a := range []int64{0, 1, -5, two30, -two30} {
		addressed(t, known(a, 3), 4, known(a, 7))
		addressed(t, known(a, 3), -4, known(a, -1))
		for _, side := range []int64{1, -1} {
			addressed(t, known(a, 0), side*two60, known(a, side*two60))
			addressed(t, known(a, side*two60), 0, known(a, side*two60))
			addressed(t, known(a, side), side*two60, Form{})
			addressed(t, known(a, side*two60), side, Form{})
			addressed(t, known(a, side*two60), -side, known(a, side*(two60-1)))
			addressed(t, known(a, side*two60), -side*two60, known(a, 0))
			addressed(t, known(a, side), -side*two60, known(a, -side*(two60-1)))
			addressed(t, known(a, side*two60), side*two60, Form{})
		}
	}
	for _, k := range []int64{0, 1, -1, two60, -two60, math.MaxInt64, math.MinInt64} {
		addressed(t, Form{}, k, Form{})
	}
}

// P19.1: a number K that isn't kept isn't known, also where B brings the sum back to what would be kept
func TestFarK(t *testing.T) {
	for _, a := range []int64{0, 1, -5, two30, -two30} {
		for _, side := range []int64{1, -1} {
			for _, by := range []int64{1, 5, two30, two60 - 1, two60, two60 + 1} {
				for _, c := range []int64{0, 1, min(by, two60), two60 - 1, two60} {
					addressed(t, known(a, -side*c), side*(two60+by), Form{})
					addressed(t, known(a, side*c), side*(two60+by), Form{})
				}
			}
			addressed(t, known(a, side*two60), math.MaxInt64, Form{})
			addressed(t, known(a, side*two60), math.MinInt64, Form{})
		}
	}
}

// P19.1: an address is what comes of B and K by OpAdd, for all forms of the pool
func TestAddressIsSum(t *testing.T) {
	ks := []int64{0, 1, -1, 64, two30, -two30 - 1, two60 - 1, two60, two60 + 1, 1 - two60, -two60, -two60 - 1, 1 << 61, -1 << 61, math.MaxInt64, math.MinInt64}
	for _, f := range pool() {
		for _, k := range ks {
			l := append(making(3, f), constant(4, k), two(api.OpAdd, 5, 3, 4), api.Ins{Kind: api.InsStore, B: 5}, api.Ins{Kind: api.InsStore, B: 3, K: k}, api.Ins{Kind: api.InsLoad, A: 6, B: 3, K: k}, api.Ins{Kind: api.InsHalt})
			got, ok := Accesses(l, 0)
			if !ok || len(got) != 3 || got[1] != got[0] || got[2] != (Access{To: got[0].To}) {
				t.Fatalf("%v and %d: %v %v", f, k, got, ok)
			}
		}
	}
}
