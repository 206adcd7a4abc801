package ins

import (
	"math"
	"math/rand"
	"slices"
	"testing"

	"outrider/api"
)

// has: what the chapter's table says that a kind has.
type has struct {
	firstOp, lastOp  api.Op // 0: no operation
	a, b, c, into, k bool
	target           bool
}

// table is written by itself, and not by the program's letters.
func table() map[api.InsKind]has {
	return map[api.InsKind]has{
		api.InsHalt:  {},
		api.InsConst: {a: true, k: true},
		api.InsMove:  {a: true, b: true},
		api.InsOne:   {firstOp: api.OpNeg, lastOp: api.OpNot, a: true, b: true},
		api.InsTwo:   {firstOp: api.OpAdd, lastOp: api.OpMax, a: true, b: true, c: true},
		api.InsLoad:  {a: true, b: true, k: true},
		api.InsStore: {a: true, b: true, k: true},
		api.InsInto:  {a: true, into: true},
		api.InsEmit:  {a: true},
		api.InsJump:  {target: true},
		api.InsZero:  {a: true, target: true},
		api.InsOther: {a: true, target: true},
		api.InsFail:  {a: true},
	}
}

func outside(n int) bool { return n < 0 || n > 15 }

// second: One, found in a second way.
func second(x api.Ins, cells, long int) api.Errno {
	p, is := table()[x.Kind]
	if !is || p.firstOp > 0 && (x.Op < p.firstOp || x.Op > p.lastOp) {
		return api.ErrOp
	}
	if p.a && outside(x.A) || p.b && outside(x.B) || p.c && outside(x.C) {
		return api.ErrReg
	}
	if p.firstOp == 0 && x.Op != 0 || !p.a && x.A != 0 || !p.b && x.B != 0 || !p.c && !p.into && x.C != 0 || !p.k && !p.target && x.K != 0 {
		return api.ErrUnused
	}
	if p.into && (x.C < 0 || x.C >= cells || x.C > 3) {
		return api.ErrCell
	}
	if p.target && (x.K < 0 || x.K >= int64(long)) {
		return api.ErrTarget
	}
	return api.OK
}

// good: an instruction of each kind that may be, in a text of two or more, beside four reductions.
func good() []api.Ins {
	return []api.Ins{
		{Kind: api.InsHalt},
		{Kind: api.InsConst, A: 1, K: -7},
		{Kind: api.InsMove, A: 1, B: 2},
		{Kind: api.InsOne, Op: api.OpCom, A: 1, B: 2},
		{Kind: api.InsTwo, Op: api.OpShl, A: 1, B: 2, C: 3},
		{Kind: api.InsLoad, A: 1, B: 2, K: 9},
		{Kind: api.InsStore, A: 1, B: 2, K: -9},
		{Kind: api.InsInto, A: 1, C: 3},
		{Kind: api.InsEmit, A: 1},
		{Kind: api.InsJump, K: 1},
		{Kind: api.InsZero, A: 1, K: 1},
		{Kind: api.InsOther, A: 1, K: 1},
		{Kind: api.InsFail, A: 1},
	}
}

func halts(many int) []api.Ins {
	l := make([]api.Ins, many)
	for i := range l {
		l[i].Kind = api.InsHalt
	}
	return l
}

func one(t *testing.T, x api.Ins, cells, long int, want api.Errno) {
	t.Helper()
	if e := One(x, cells, long); e != want {
		t.Errorf("One(%+v, %d, %d) = %d, not %d", x, cells, long, e, want)
	}
}

// P8.1: each kind, with each part in turn just within, just outside, and far outside
func TestOneOfEachPart(t *testing.T) {
	for _, x := range good() {
		p := table()[x.Kind]
		one(t, x, 4, 2, api.OK)
		for _, n := range []int{math.MinInt, -1 << 32, -1, 0, 15, 16, 255, 1 << 32, math.MaxInt} {
			bad := func(is, into bool) api.Errno {
				switch {
				case into && (n < 0 || n > 3):
					return api.ErrCell
				case is && outside(n):
					return api.ErrReg
				case !is && !into && n != 0:
					return api.ErrUnused
				}
				return api.OK
			}
			y := x
			y.A = n
			one(t, y, 4, 2, bad(p.a, false))
			y = x
			y.B = n
			one(t, y, 4, 2, bad(p.b, false))
			y = x
			y.C = n
			one(t, y, 4, 2, bad(p.c, p.into))
		}
		for _, n := range []int64{math.MinInt64, -1, 0, 1, 2, 1 << 32, math.MaxInt64} {
			y := x
			y.K = n
			want := api.OK
			if p.target && (n < 0 || n > 1) {
				want = api.ErrTarget
			} else if !p.target && !p.k && n != 0 {
				want = api.ErrUnused
			}
			one(t, y, 4, 2, want)
		}
	}
}

// P8.1: operations of one, of two, of none
func TestOneOfEachOp(t *testing.T) {
	for op := api.Op(-2); op <= 25; op++ {
		wantOne, wantTwo := api.ErrOp, api.ErrOp
		switch op {
		case 19, 20, 21:
			wantOne = api.OK
		case 1, 2, 3, 4, 5, 6, 7, 8, 9, 10, 11, 12, 13, 14, 15, 16, 17, 18:
			wantTwo = api.OK
		}
		one(t, api.Ins{Kind: api.InsOne, Op: op}, 0, 1, wantOne)
		one(t, api.Ins{Kind: api.InsTwo, Op: op}, 0, 1, wantTwo)
		if op != 0 {
			one(t, api.Ins{Kind: api.InsHalt, Op: op}, 0, 1, api.ErrUnused)
			one(t, api.Ins{Kind: api.InsMove, Op: op}, 0, 1, api.ErrUnused)
		}
	}
	for _, op := range []api.Op{math.MinInt, 1<<32 + 1, 1<<32 + 19, math.MaxInt} {
		one(t, api.Ins{Kind: api.InsOne, Op: op}, 0, 1, api.ErrOp)
		one(t, api.Ins{Kind: api.InsTwo, Op: op}, 0, 1, api.ErrOp)
		one(t, api.Ins{Kind: api.InsFail, Op: op}, 0, 1, api.ErrUnused)
	}
	for _, kind := range []api.InsKind{math.MinInt, -1, 0, 14, 256 + 1, 1<<32 + 1, math.MaxInt} {
		one(t, api.Ins{Kind: kind}, 4, 1, api.ErrOp)
	}
}

// P8.1: of several errors the one that is named first
func TestOneOrder(t *testing.T) {
	one(t, api.Ins{Kind: 14, Op: 99, A: 99, B: 99, C: 99, K: 99}, 0, 1, api.ErrOp)
	one(t, api.Ins{Kind: api.InsOne, Op: api.OpAdd, A: 16, C: 1}, 0, 1, api.ErrOp)
	one(t, api.Ins{Kind: api.InsTwo, Op: api.OpNeg, C: 16, K: 1}, 0, 1, api.ErrOp)
	one(t, api.Ins{Kind: api.InsOne, Op: api.OpNeg, B: 16, C: 1}, 0, 1, api.ErrReg)
	one(t, api.Ins{Kind: api.InsConst, Op: 99, A: -1}, 0, 1, api.ErrReg)
	one(t, api.Ins{Kind: api.InsInto, A: 16, B: 1, C: 9}, 0, 1, api.ErrReg)
	one(t, api.Ins{Kind: api.InsInto, A: 15, B: 1, C: 9}, 0, 1, api.ErrUnused)
	one(t, api.Ins{Kind: api.InsInto, A: 15, C: 9, K: 1}, 0, 1, api.ErrUnused)
	one(t, api.Ins{Kind: api.InsInto, A: 15, C: 16}, 4, 1, api.ErrCell)
	one(t, api.Ins{Kind: api.InsZero, A: 16, B: 1, K: 9}, 0, 1, api.ErrReg)
	one(t, api.Ins{Kind: api.InsOther, A: 15, B: 1, K: 9}, 0, 1, api.ErrUnused)
	one(t, api.Ins{Kind: api.InsJump, A: 99, K: 9}, 0, 1, api.ErrUnused)
	one(t, api.Ins{Kind: api.InsJump, K: 9}, 0, 1, api.ErrTarget)
}

// P8.1: how many reductions, how many instructions there are
func TestOneCellsAndLong(t *testing.T) {
	for _, cells := range []int{math.MinInt, -1, 0, 1, 2, 3, 4, 5, 9, math.MaxInt} {
		for c := -1; c <= 6; c++ {
			want := api.OK
			if c < 0 || c > 3 || c >= cells {
				want = api.ErrCell
			}
			one(t, api.Ins{Kind: api.InsInto, C: c}, cells, 1, want)
		}
		one(t, api.Ins{Kind: api.InsHalt}, cells, 1, api.OK)
	}
	for _, long := range []int{math.MinInt, -1, 0, 1, 2, 600, 601, math.MaxInt} {
		for _, k := range []int64{math.MinInt64, -1, 0, 1, 2, 599, 600, 601, math.MaxInt64} {
			want := api.ErrTarget
			if k >= 0 && k < int64(long) {
				want = api.OK
			}
			one(t, api.Ins{Kind: api.InsJump, K: k}, 0, long, want)
			one(t, api.Ins{Kind: api.InsZero, K: k}, 0, long, want)
			one(t, api.Ins{Kind: api.InsOther, K: k}, 0, long, want)
			one(t, api.Ins{Kind: api.InsConst, K: k}, 0, long, api.OK)
			one(t, api.Ins{Kind: api.InsLoad, K: k}, 0, long, api.OK)
		}
	}
}

// P8.1: all of it together, held against the second way
func TestOneTwice(t *testing.T) {
	for kind := api.InsKind(-1); kind <= 15; kind++ {
		for _, op := range []api.Op{-1, 0, 1, 18, 19, 21, 22} {
			for _, a := range []int{-1, 0, 15, 16} {
				for _, b := range []int{-1, 0, 15, 16} {
					for _, c := range []int{-1, 0, 3, 4, 15, 16} {
						for _, k := range []int64{-1, 0, 4, 5} {
							x := api.Ins{Kind: kind, Op: op, A: a, B: b, C: c, K: k}
							for _, cells := range []int{-1, 0, 3, 4, 5} {
								one(t, x, cells, 5, second(x, cells, 5))
							}
							one(t, x, 4, 0, second(x, 4, 0))
						}
					}
				}
			}
		}
	}
}

func check(t *testing.T, l []api.Ins, cells, at int, want api.Errno) {
	t.Helper()
	was := slices.Clone(l)
	if place, e := Check(l, cells); place != at || e != want {
		t.Errorf("Check of %d, with %d: %d, %d; not %d, %d", len(l), cells, place, e, at, want)
	}
	if !slices.Equal(l, was) {
		t.Error("Check has changed what it was handed")
	}
}

// P8.2: how many there are
func TestCheckLong(t *testing.T) {
	check(t, nil, 0, 0, api.ErrLen)
	check(t, []api.Ins{}, 4, 0, api.ErrLen)
	check(t, halts(1)[:0], 4, 0, api.ErrLen)
	check(t, halts(1), 0, 0, api.OK)
	check(t, halts(600), 0, 0, api.OK)
	check(t, halts(601), 0, 0, api.ErrLen)
	check(t, make([]api.Ins, 601), 0, 0, api.ErrLen)
	l := halts(600)
	l[0] = api.Ins{Kind: api.InsJump, K: 599}
	check(t, l, 0, 0, api.OK)
	l[0].K = 600
	check(t, l, 0, 0, api.ErrTarget)
	l[0] = api.Ins{Kind: api.InsHalt}
	l[599] = api.Ins{Kind: api.InsEmit}
	check(t, l, 0, 599, api.ErrFall)
}

// P8.2: the first one that has an error; and then only, whether the last one falls
func TestCheckFirst(t *testing.T) {
	check(t, []api.Ins{{Kind: api.InsMove, A: 1, B: 2}}, 0, 0, api.ErrFall)
	check(t, []api.Ins{{Kind: api.InsJump, K: 1}}, 0, 0, api.ErrTarget)
	check(t, []api.Ins{{Kind: api.InsJump}}, 0, 0, api.OK)
	check(t, []api.Ins{{Kind: api.InsFail, A: 15}}, 0, 0, api.OK)
	check(t, []api.Ins{{Kind: api.InsMove, A: 16}}, 0, 0, api.ErrReg)
	check(t, []api.Ins{{}}, 0, 0, api.ErrOp)
	for i := range 3 {
		l := []api.Ins{{Kind: api.InsEmit}, {Kind: api.InsEmit}, {Kind: api.InsHalt}}
		l[i].A, l[i].B, l[i].Op = 1, 1, 1
		check(t, l, 0, i, api.ErrUnused)
		l = []api.Ins{{Kind: api.InsInto, C: 0}, {Kind: api.InsInto, C: 1}, {Kind: api.InsInto, C: 2}, {Kind: api.InsHalt}}
		check(t, l, i, i, api.ErrCell)
	}
	check(t, []api.Ins{{Kind: api.InsEmit}, {Kind: api.InsZero, K: 2}, {Kind: api.InsEmit, A: 16}}, 0, 2, api.ErrReg)
	check(t, []api.Ins{{Kind: api.InsEmit}, {Kind: api.InsZero, K: 3}, {Kind: api.InsEmit, A: 16}}, 0, 1, api.ErrTarget)
	check(t, []api.Ins{{Kind: api.InsHalt}, {Kind: api.InsZero}}, 0, 1, api.ErrFall)
	check(t, []api.Ins{{Kind: api.InsInto, C: 4}, {Kind: api.InsHalt}}, 9, 0, api.ErrCell)
	check(t, []api.Ins{{Kind: api.InsInto, C: 3}, {Kind: api.InsHalt}}, 9, 0, api.OK)
	for _, x := range good() {
		at, want := 1, api.ErrFall
		if x.Kind == api.InsHalt || x.Kind == api.InsJump || x.Kind == api.InsFail {
			at, want = 0, api.OK
		}
		check(t, []api.Ins{{Kind: api.InsHalt}, x}, 4, at, want)
	}
}

// P8.2: what lies behind the length isn't looked at
func TestCheckBehindTheLength(t *testing.T) {
	l := []api.Ins{{Kind: api.InsHalt}, {Kind: 99}}
	check(t, l[:1], 0, 0, api.OK)
}

// P8.3
func TestFalls(t *testing.T) {
	for kind := api.InsKind(-3); kind <= 20; kind++ {
		want := kind != 1 && kind != 10 && kind != 13
		if Falls(api.Ins{Kind: kind, Op: 1, A: 99, K: -1}) != want {
			t.Errorf("Falls of %d isn't %v", kind, want)
		}
	}
}

func targets(t *testing.T, l []api.Ins, at int, want ...int) {
	t.Helper()
	was := slices.Clone(l)
	if got := Targets(l, at); !slices.Equal(got, want) {
		t.Errorf("Targets(%v, %d) = %v, not %v", l, at, got, want)
	}
	if !slices.Equal(l, was) {
		t.Error("Targets has changed what it was handed")
	}
}

// P8.3
func TestTargets(t *testing.T) {
	targets(t, []api.Ins{{Kind: api.InsZero}, {Kind: api.InsHalt}}, 0, 0, 1)
	for _, at := range []int{math.MinInt, -1, 2, math.MaxInt} {
		targets(t, good()[:2], at)
	}
	targets(t, nil, 0)
	targets(t, halts(2)[:1], 1)
	for _, kind := range []api.InsKind{api.InsZero, api.InsOther} {
		l := []api.Ins{{Kind: api.InsEmit}, {Kind: kind}, {Kind: api.InsEmit}, {Kind: kind}}
		for _, c := range []struct {
			k         int64
			mid, last []int
		}{
			{math.MinInt64, []int{2}, nil}, {-1, []int{2}, nil}, {0, []int{0, 2}, []int{0}}, {1, []int{1, 2}, []int{1}}, {2, []int{2}, []int{2}},
			{3, []int{2, 3}, []int{3}}, {4, []int{2}, nil}, {1 << 32, []int{2}, nil}, {1<<32 + 1, []int{2}, nil}, {math.MaxInt64, []int{2}, nil},
		} {
			l[1].K, l[3].K = c.k, c.k
			targets(t, l, 1, c.mid...)
			targets(t, l, 3, c.last...)
		}
	}
	jump := []api.Ins{{Kind: api.InsHalt}, {Kind: api.InsJump}, {Kind: api.InsHalt}}
	for _, k := range []int64{math.MinInt64, -1, 3, 1 << 32, math.MaxInt64} {
		jump[1].K = k
		targets(t, jump, 1)
	}
	for k := range 3 {
		jump[1].K = int64(k)
		targets(t, jump, 1, k)
	}
}

// P8.3: a K that isn't a target is none, and a kind that there isn't goes on
func TestTargetsOfOthers(t *testing.T) {
	for kind := api.InsKind(-1); kind <= 15; kind++ {
		if kind == api.InsJump || kind == api.InsZero || kind == api.InsOther {
			continue
		}
		l := []api.Ins{{Kind: kind, K: 2}, {Kind: kind, K: 0}, {Kind: kind, K: 1}}
		if kind == api.InsHalt || kind == api.InsFail {
			targets(t, l, 0)
			targets(t, l, 1)
		} else {
			targets(t, l, 0, 1)
			targets(t, l, 1, 2)
		}
		targets(t, l, 2)
	}
}

// P8.3: each part of each one counts; a list that isn't there is an empty one
func TestSame(t *testing.T) {
	if !Same(nil, nil) || !Same(nil, []api.Ins{}) || !Same([]api.Ins{}, nil) || !Same(halts(1)[:0], nil) {
		t.Error("empty ones differ")
	}
	a := []api.Ins{{Kind: 1, Op: 2, A: 3, B: 4, C: 5, K: 6}, {Kind: -7, Op: -8, A: -9, B: -10, C: -11, K: -12}}
	if !Same(a, slices.Clone(a)) || !Same(a, a) || !Same(a[:1], append(slices.Clone(a[:1]), a...)[:1]) {
		t.Error("the same ones differ")
	}
	if Same(a, a[:1]) || Same(a[:1], a) || Same(a, nil) || Same(nil, a) {
		t.Error("of different lengths, but the same")
	}
	for i := range a {
		for _, turn := range []func(x *api.Ins){
			func(x *api.Ins) { x.Kind++ }, func(x *api.Ins) { x.Op++ }, func(x *api.Ins) { x.A++ }, func(x *api.Ins) { x.B++ }, func(x *api.Ins) { x.C++ }, func(x *api.Ins) { x.K += 1 << 40 },
		} {
			b := slices.Clone(a)
			turn(&b[i])
			if Same(a, b) || Same(b, a) {
				t.Errorf("%v is the same as %v", a, b)
			}
		}
	}
}

// anyText: a text at random, most of whose instructions may be.
func anyText(r *rand.Rand) []api.Ins {
	l := make([]api.Ins, r.Intn(8))
	for i := range l {
		x := good()[r.Intn(13)]
		switch x.Kind {
		case api.InsOne:
			x.Op = api.OpNeg + api.Op(r.Intn(3))
		case api.InsTwo:
			x.Op = api.OpAdd + api.Op(r.Intn(18))
		case api.InsInto:
			x.C = r.Intn(5)
		case api.InsJump, api.InsZero, api.InsOther:
			x.K = int64(r.Intn(len(l)+1)) - int64(r.Intn(20)/19)
		case api.InsConst, api.InsLoad, api.InsStore:
			x.K = int64(r.Uint64()) >> r.Intn(64)
		}
		if r.Intn(40) == 0 {
			x.B = r.Intn(20) - 2
		}
		l[i] = x
	}
	if len(l) > 0 && r.Intn(5) > 0 {
		l[len(l)-1] = api.Ins{Kind: api.InsHalt}
	}
	return l
}

// P8.2, P8.5: Check held against the second way of One, and: with more reductions no text gets an error
func TestCheckAtRandom(t *testing.T) {
	r := rand.New(rand.NewSource(8))
	for range 20000 {
		l := anyText(r)
		before := api.ErrLen
		for cells := -1; cells <= 6; cells++ {
			at, want := 0, api.OK
			if len(l) == 0 {
				want = api.ErrLen
			}
			for i := len(l) - 1; i >= 0; i-- {
				if e := second(l[i], cells, len(l)); e != api.OK {
					at, want = i, e
				} else if i == len(l)-1 && Falls(l[i]) {
					at, want = i, api.ErrFall
				}
			}
			check(t, l, cells, at, want)
			_, e := Check(l, cells)
			if before == api.OK && e != api.OK {
				t.Errorf("%v gets %d with %d reductions", l, e, cells)
			}
			before = e
		}
	}
}
