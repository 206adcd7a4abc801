package opt

import (
	"math"
	"slices"
	"testing"

	"outrider/api"
	"outrider/num"
)

// eachKind: an instruction of each kind, in a text of five or more; those that set a register set 4, and those that read one read 3, which is the others' B.
func eachKind() []api.Ins {
	return []api.Ins{
		{Kind: api.InsHalt},
		{Kind: api.InsConst, A: 4, K: -7},
		{Kind: api.InsMove, A: 4, B: 3},
		{Kind: api.InsOne, Op: api.OpCom, A: 4, B: 3},
		{Kind: api.InsTwo, Op: api.OpSub, A: 4, B: 3, C: 3},
		{Kind: api.InsLoad, A: 4, B: 3, K: 9},
		{Kind: api.InsStore, A: 3, B: 3, K: -9},
		{Kind: api.InsInto, A: 3, C: 3},
		{Kind: api.InsEmit, A: 3},
		{Kind: api.InsJump, K: 4},
		{Kind: api.InsZero, A: 3, K: 4},
		{Kind: api.InsOther, A: 3, K: 4},
		{Kind: api.InsFail, A: 3},
	}
}

// places: the leaders of a listing.
func places(t *testing.T, s string, want ...int) {
	t.Helper()
	l := listed(t, s)
	got := asked(t, Leaders, l)
	if len(got) != len(l) {
		t.Fatalf("%s: %v", s, got)
	}
	var are []int
	for at, is := range got {
		if is {
			are = append(are, at)
		}
	}
	if !slices.Equal(are, want) {
		t.Errorf("%s: %v, not %v", s, are, want)
	}
}

// P12.1: the first place, each target, and what stands behind each of the five
func TestLeaders(t *testing.T) {
	places(t, "halt", 0)
	places(t, "emit r1; emit r1; halt", 0)
	places(t, "emit r1; halt; emit r1; halt", 0, 2)
	places(t, "emit r1; fail r1; emit r1; halt", 0, 2)
	places(t, "emit r1; jump l0; emit r1; l0:; emit r1; halt", 0, 2, 3)
	places(t, "emit r1; zero r1 l0; emit r1; l0:; emit r1; halt", 0, 2, 3)
	places(t, "emit r1; other r1 l0; emit r1; l0:; emit r1; halt", 0, 2, 3)
	places(t, "emit r1; l0:; emit r1; emit r1; jump l0", 0, 1)
	places(t, "emit r1; l0:; emit r1; emit r1; zero r1 l0; emit r1; halt", 0, 1, 4)
	places(t, "emit r1; l0:; emit r1; emit r1; other r1 l0; emit r1; halt", 0, 1, 4)
	places(t, "l0:; jump l0", 0)
	places(t, "emit r1; emit r1; emit r1; l0:; jump l0", 0, 3)
	// targets of what can't be come to, too
	places(t, "emit r1; emit r1; l0:; emit r1; halt; jump l0", 0, 2, 4)
}

// P12.1: of each kind, whether what stands behind it is a leader
func TestLeadersBehindEachKind(t *testing.T) {
	for _, x := range eachKind() {
		l := []api.Ins{{Kind: api.InsEmit}, x, {Kind: api.InsEmit}, {Kind: api.InsEmit}, {Kind: api.InsEmit}, {Kind: api.InsHalt}}
		target := x.Kind == api.InsJump || x.Kind == api.InsZero || x.Kind == api.InsOther
		want := []bool{true, false, target || x.Kind == api.InsHalt || x.Kind == api.InsFail, false, target, false}
		if got := asked(t, Leaders, l); !slices.Equal(got, want) {
			t.Errorf("%v: %v, not %v", x, got, want)
		}
	}
}

// P12.1: each row of Fold's table
func TestFold(t *testing.T) {
	becomes(t, Fold, [][2]string{
		{"const r3 5; move r4 r3; halt", "const r3 5; const r4 5; halt"},
		{"const r3 5; neg r4 r3; com r5 r3; not r6 r3; halt", "const r3 5; const r4 -5; const r5 -6; const r6 0; halt"},
		{"const r3 0; not r3 r3; not r3 r3; halt", "const r3 0; const r3 1; const r3 0; halt"},
		{"const r3 7; const r4 2; sub r5 r3 r4; sub r6 r4 r3; div r7 r3 r4; rem r8 r3 r4; halt", "const r3 7; const r4 2; const r5 5; const r6 -5; const r7 3; const r8 1; halt"},
		{"const r3 7; mul r3 r3 r3; halt", "const r3 7; const r3 49; halt"},
		{"const r3 -9223372036854775808; const r4 -1; div r5 r3 r4; rem r6 r3 r4; mul r7 r3 r4; add r8 r3 r4; neg r9 r3; halt",
			"const r3 -9223372036854775808; const r4 -1; const r5 -9223372036854775808; const r6 0; const r7 -9223372036854775808; const r8 9223372036854775807; const r9 -9223372036854775808; halt"},
		{"const r3 0; zero r3 l3; emit r1; l3:; emit r2; halt", "const r3 0; jump l3; emit r1; l3:; emit r2; halt"},
		{"const r3 1; zero r3 l3; emit r1; l3:; emit r2; halt", "const r3 1; jump l2; l2:; emit r1; emit r2; halt"},
		{"const r3 0; other r3 l3; emit r1; l3:; emit r2; halt", "const r3 0; jump l2; l2:; emit r1; emit r2; halt"},
		{"const r3 -1; other r3 l3; emit r1; l3:; emit r2; halt", "const r3 -1; jump l3; emit r1; l3:; emit r2; halt"},
		{"l0:; const r3 0; zero r3 l0; halt", "l0:; const r3 0; jump l0; halt"},
		{"l0:; const r3 0; other r3 l0; halt", "const r3 0; jump l2; l2:; halt"},
		{"const r3 4294967296; other r3 l3; emit r1; l3:; halt", "const r3 4294967296; jump l3; emit r1; l3:; halt"},
		// what was put in is known in turn
		{"const r3 2; move r4 r3; add r5 r4 r3; neg r6 r5; other r6 l0; halt; l0:; emit r6; halt", "const r3 2; const r4 2; const r5 4; const r6 -4; jump l6; halt; l6:; emit r6; halt"},
		// the last number counts
		{"const r3 2; const r3 3; move r4 r3; halt", "const r3 2; const r3 3; const r4 3; halt"},
	})
}

// P12.1: each operation of two known registers, and of one
func TestFoldEachOp(t *testing.T) {
	words := []int64{math.MinInt64, -64, -7, -1, 0, 1, 2, 63, 64, math.MaxInt64}
	for op := api.OpAdd; op <= api.OpMax; op++ {
		for _, a := range words {
			for _, b := range words {
				x := api.Ins{Kind: api.InsTwo, Op: op, A: 5, B: 3, C: 4}
				l := []api.Ins{{Kind: api.InsConst, A: 3, K: a}, {Kind: api.InsConst, A: 4, K: b}, x, {Kind: api.InsMove, A: 6, B: 5}, {Kind: api.InsHalt}}
				want := slices.Clone(l)
				if n, is := num.Two(op, a, b); is {
					want[2] = api.Ins{Kind: api.InsConst, A: 5, K: n}
					want[3] = api.Ins{Kind: api.InsConst, A: 6, K: n}
				} else if b != 0 || op != api.OpDiv && op != api.OpRem {
					t.Fatal(op, a, b)
				}
				if got := asked(t, Fold, l); !slices.Equal(got, want) {
					t.Errorf("%d of %d, %d: %v, not %v", op, a, b, got, want)
				}
			}
		}
	}
	for op := api.OpNeg; op <= api.OpNot; op++ {
		for _, a := range words {
			n, _ := num.One(op, a)
			l := []api.Ins{{Kind: api.InsConst, A: 3, K: a}, {Kind: api.InsOne, Op: op, A: 4, B: 3}, {Kind: api.InsOne, Op: op, A: 4, B: 5}, {Kind: api.InsHalt}}
			want := []api.Ins{l[0], {Kind: api.InsConst, A: 4, K: n}, l[2], l[3]}
			if got := asked(t, Fold, l); !slices.Equal(got, want) {
				t.Errorf("%d of %d: %v, not %v", op, a, got, want)
			}
		}
	}
}

// P12.1: each operation whose right register alone is known, with each number that might turn nothing; and whose left one alone is
func TestFoldTurnsNothing(t *testing.T) {
	for op := api.OpAdd; op <= api.OpMax; op++ {
		for _, n := range []int64{math.MinInt64, math.MinInt64 + 1, -65, -64, -63, -2, -1, 0, 1, 2, 32, 62, 63, 64, 65, 127, 128, 1 << 32, 1<<32 + 1, math.MaxInt64} {
			var is bool
			switch op {
			case api.OpAdd, api.OpSub, api.OpOr, api.OpXor:
				is = n == 0
			case api.OpShl, api.OpShr:
				is = n%64 == 0
			case api.OpMul, api.OpDiv:
				is = n == 1
			case api.OpAnd:
				is = n == -1
			}
			for _, a := range []int{1, 3, 5} {
				l := []api.Ins{{Kind: api.InsConst, A: 3, K: n}, {Kind: api.InsTwo, Op: op, A: a, B: 1, C: 3}, {Kind: api.InsHalt}}
				want := slices.Clone(l)
				if is {
					want[1] = api.Ins{Kind: api.InsMove, A: a, B: 1}
				}
				if got := asked(t, Fold, l); !slices.Equal(got, want) {
					t.Errorf("%d with %d: %v, not %v", op, n, got, want)
				}
				l[1].B, l[1].C = 3, 1
				if got := asked(t, Fold, l); !slices.Equal(got, l) {
					t.Errorf("%d with %d on the left: %v", op, n, got)
				}
			}
		}
	}
	// behind it A isn't known any more
	becomes(t, Fold, [][2]string{
		{"const r3 0; add r3 r1 r3; move r4 r3; halt", "const r3 0; move r3 r1; move r4 r3; halt"},
		{"const r3 1; const r4 1; mul r4 r1 r3; move r5 r4; move r6 r3; halt", "const r3 1; const r4 1; move r4 r1; move r5 r4; const r6 1; halt"},
	})
}

// P12.1: what divides by 0 stays, and nothing is known of what it sets
func TestFoldDividesByNought(t *testing.T) {
	stays(t, Fold, []string{
		"const r3 0; const r4 7; div r5 r4 r3; halt", "const r3 0; const r4 7; rem r5 r4 r3; halt",
		"const r3 0; div r5 r3 r3; halt", "const r3 0; rem r5 r3 r3; halt",
		"const r3 0; div r5 r1 r3; halt", "const r3 0; rem r5 r1 r3; halt",
		"const r3 0; const r5 4; div r5 r5 r3; move r6 r5; halt", "const r3 0; rem r3 r3 r3; move r6 r3; zero r3 l5; halt; l5:; emit r1; halt",
	})
	becomes(t, Fold, [][2]string{{"const r3 0; div r5 r3 r3; move r6 r3; halt", "const r3 0; div r5 r3 r3; const r6 0; halt"}})
}

// P12.1: what isn't known stays, though the registers hold 0 at first
func TestFoldStays(t *testing.T) {
	stays(t, Fold, []string{
		"halt", "fail r3", "l0:; jump l0",
		"move r4 r3; neg r5 r3; add r6 r3 r3; halt",
		"zero r3 l2; emit r1; l2:; halt", "other r3 l2; emit r1; l2:; halt",
		"const r3 5; move r4 r1; neg r4 r1; add r4 r1 r2; eq r4 r1 r3; add r4 r3 r1; halt",
		"const r3 0; load r4 r3 0; store r3 r3 0; emit r3; into r3 0; fail r3",
		"const r3 1; rem r4 r1 r3; min r4 r1 r3; max r4 r1 r3; shl r4 r1 r3; halt",
		"const r4 5; zero r3 l3; emit r1; l3:; halt",
	})
}

// P12.1: at a leader nothing is known, whichever made it one
func TestFoldAtLeaders(t *testing.T) {
	stays(t, Fold, []string{
		"const r3 5; zero r1 l3; move r4 r3; l3:; move r4 r3; halt",
		"const r3 5; other r1 l3; move r4 r3; l3:; move r4 r3; halt",
		"const r3 5; jump l2; l2:; move r4 r3; halt",
		"const r3 5; jump l3; move r4 r3; l3:; move r4 r3; halt",
		"const r3 5; halt; move r4 r3; halt",
		"const r3 5; fail r3; move r4 r3; halt",
		"const r3 5; l1:; move r4 r3; jump l1",
		"const r3 5; l1:; move r4 r3; zero r1 l1; halt",
		"const r3 5; l1:; neg r3 r3; other r1 l1; halt",
		"const r3 5; l1:; move r4 r3; halt; jump l1",
	})
	becomes(t, Fold, [][2]string{
		// as the instructions stood: what became a jump to the next place ended its row all the same, and the target that it lost is a leader still
		{"const r3 5; zero r3 l4; move r4 r3; emit r4; l4:; move r4 r3; halt", "const r3 5; jump l2; l2:; move r4 r3; emit r4; move r4 r3; halt"},
		{"const r3 5; other r3 l2; l2:; move r4 r3; halt", "const r3 5; jump l2; l2:; move r4 r3; halt"},
		// within each row
		{"const r3 5; jump l2; l2:; const r3 6; move r4 r3; halt; const r4 7; move r5 r4; halt", "const r3 5; jump l2; l2:; const r3 6; const r4 6; halt; const r4 7; const r5 7; halt"},
		{"const r3 5; emit r1; move r4 r3; halt", "const r3 5; emit r1; const r4 5; halt"},
	})
}

// P12.1: of each kind, what is known behind it
func TestFoldBehindEachKind(t *testing.T) {
	for _, x := range eachKind() {
		for r := 3; r <= 4; r++ {
			l := []api.Ins{{Kind: api.InsConst, A: r, K: 5}, x, {Kind: api.InsMove, A: 6, B: 4}, {Kind: api.InsMove, A: 7, B: 3}, {Kind: api.InsHalt}}
			want := slices.Clone(l)
			put := func(at int, n int64) { want[at] = api.Ins{Kind: api.InsConst, A: want[at].A, K: n} }
			switch x.Kind {
			case api.InsConst:
				put(2, -7)
				if r == 3 {
					put(3, 5)
				}
			case api.InsMove, api.InsOne, api.InsTwo:
				if r == 3 {
					n := map[api.InsKind]int64{api.InsMove: 5, api.InsOne: -6, api.InsTwo: 0}[x.Kind]
					put(1, n)
					put(2, n)
					put(3, 5)
				}
			case api.InsLoad:
				if r == 3 {
					put(3, 5)
				}
			case api.InsStore, api.InsInto, api.InsEmit:
				put(6-r, 5) // 4 is read at 2, 3 at 3
			case api.InsZero:
				if r == 3 {
					want[1] = api.Ins{Kind: api.InsJump, K: 2}
				}
			case api.InsOther:
				if r == 3 {
					want[1] = api.Ins{Kind: api.InsJump, K: 4}
				}
			}
			if got := asked(t, Fold, l); !slices.Equal(got, want) {
				t.Errorf("%v: %v, not %v", l, got, want)
			}
		}
	}
}

// P12.1: every register by itself
func TestFoldEachRegister(t *testing.T) {
	for a := range api.Regs {
		for b := range api.Regs {
			l := []api.Ins{{Kind: api.InsConst, A: a, K: 8}, {Kind: api.InsEmit, A: b}, {Kind: api.InsOne, Op: api.OpNeg, A: 9, B: b}, {Kind: api.InsHalt}}
			want := slices.Clone(l)
			if a == b {
				want[2] = api.Ins{Kind: api.InsConst, A: 9, K: -8}
			}
			if got := asked(t, Fold, l); !slices.Equal(got, want) {
				t.Errorf("%v: %v, not %v", l, got, want)
			}
		}
	}
}
