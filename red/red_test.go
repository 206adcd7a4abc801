package red

import (
	"math"
	"math/big"
	"slices"
	"testing"

	"outrider/api"
)

const (
	least    = math.MinInt64
	greatest = math.MaxInt64
)

func ops() []api.RedOp {
	return []api.RedOp{api.RedSum, api.RedProd, api.RedMin, api.RedMax, api.RedAnd, api.RedOr, api.RedXor}
}

// others: what isn't in the table, among it numbers whose lowest bits are those of an operation.
func others() []api.RedOp {
	return []api.RedOp{math.MinInt, -1 << 32, -7, -1, 0, 8, 9, 15, 257, 1<<32 + 1, math.MaxInt}
}

// edges: numbers at which something turns, and ordinary ones.
func edges() []int64 {
	return []int64{
		least, least + 1, least / 2, -1<<33 + 5, -1 << 32, -1<<31 - 1, -12345, -7, -3, -2, -1, 0,
		1, 2, 3, 5, 6, 7, 64, 12345, 1<<31 - 1, 1 << 31, 1 << 32, 3037000500, 1<<62 - 1, 1 << 62, greatest - 1, greatest,
	}
}

// round: the lowest 64 bits of a number, read in two's complement.
func round(n *big.Int) int64 {
	low := new(big.Int).And(n, new(big.Int).SetUint64(math.MaxUint64))
	return int64(low.Uint64())
}

// joined: a second way to say Join, by numbers that don't go round.
func joined(op api.RedOp, a, b int64) int64 {
	x, y, z := big.NewInt(a), big.NewInt(b), new(big.Int)
	switch op {
	case api.RedSum:
		return round(z.Add(x, y))
	case api.RedProd:
		return round(z.Mul(x, y))
	case api.RedMin, api.RedMax:
		if (x.Cmp(y) < 0) == (op == api.RedMin) {
			return a
		}
		return b
	case api.RedAnd:
		return round(z.And(x, y))
	case api.RedOr:
		return round(z.Or(x, y))
	case api.RedXor:
		return round(z.Xor(x, y))
	}
	return 0
}

// P14.1: which operations there are
func TestRight(t *testing.T) {
	for _, op := range ops() {
		if !Right(op) {
			t.Error(op, "isn't right")
		}
	}
	for _, op := range others() {
		if Right(op) {
			t.Error(op, "is right")
		}
	}
}

// P14.1: Zero, row by row
func TestZero(t *testing.T) {
	want := []int64{0, 1, greatest, least, -1, 0, 0}
	for i, op := range ops() {
		if n := Zero(op); n != want[i] {
			t.Errorf("Zero(%d): %d, not %d", op, n, want[i])
		}
	}
	for _, op := range others() {
		if n := Zero(op); n != 0 {
			t.Errorf("Zero(%d): %d", op, n)
		}
	}
}

// P14.1: Join, row by row, with words that go round
func TestJoin(t *testing.T) {
	for _, x := range []struct {
		op         api.RedOp
		a, b, want int64
	}{
		{api.RedSum, 5, 2, 7},
		{api.RedSum, -5, 2, -3},
		{api.RedSum, greatest, 1, least},
		{api.RedSum, greatest, greatest, -2},
		{api.RedSum, least, -1, greatest},
		{api.RedSum, least, least, 0},
		{api.RedProd, -3, 7, -21},
		{api.RedProd, 0, least, 0},
		{api.RedProd, greatest, 2, -2},
		{api.RedProd, greatest, greatest, 1},
		{api.RedProd, least, -1, least},
		{api.RedProd, least, least, 0},
		{api.RedProd, 1 << 32, 1 << 32, 0},
		{api.RedProd, 1 << 32, 1 << 31, least},
		{api.RedMin, 3, -1, -1},
		{api.RedMin, 4, 4, 4},
		{api.RedMin, least, greatest, least},
		{api.RedMax, 3, -1, 3},
		{api.RedMax, -4, -9, -4},
		{api.RedMax, least, greatest, greatest},
		{api.RedAnd, 6, 3, 2},
		{api.RedAnd, least, -1, least},
		{api.RedAnd, least, greatest, 0},
		{api.RedOr, 6, 3, 7},
		{api.RedOr, least, greatest, -1},
		{api.RedOr, least, 0, least},
		{api.RedXor, 6, 3, 5},
		{api.RedXor, least, greatest, -1},
		{api.RedXor, -1, -1, 0},
	} {
		if n := Join(x.op, x.a, x.b); n != x.want {
			t.Errorf("Join(%d, %d, %d): %d, not %d", x.op, x.a, x.b, n, x.want)
		}
	}
}

// P14.1: Join of all pairs of edges, held against a second way; what isn't in the table gives 0
func TestJoinEdges(t *testing.T) {
	for _, a := range edges() {
		for _, b := range edges() {
			for _, op := range slices.Concat(ops(), others()) {
				if n := Join(op, a, b); n != joined(op, a, b) {
					t.Errorf("Join(%d, %d, %d): %d, not %d", op, a, b, n, joined(op, a, b))
				}
			}
		}
	}
}

// P14.4: Join is the same both ways round, and in whatever brackets; Zero turns nothing
func TestJoinLaws(t *testing.T) {
	for _, op := range ops() {
		for _, a := range edges() {
			if Join(op, Zero(op), a) != a || Join(op, a, Zero(op)) != a {
				t.Errorf("Zero(%d) turns %d", op, a)
			}
			for _, b := range edges() {
				if Join(op, a, b) != Join(op, b, a) {
					t.Errorf("Join(%d, %d, %d) isn't the same both ways", op, a, b)
				}
				for _, c := range edges() {
					if Join(op, Join(op, a, b), c) != Join(op, a, Join(op, b, c)) {
						t.Errorf("Join(%d) of %d, %d, %d isn't the same in all brackets", op, a, b, c)
					}
				}
			}
		}
	}
}

// P14.1: Fold, of nothing, of one, of several; the chapter's examples
func TestFold(t *testing.T) {
	if n := Fold(api.RedMin, 3, -1, 7); n != -1 {
		t.Error(n)
	}
	if n := Fold(api.RedProd); n != 1 {
		t.Error(n)
	}
	l := []int64{3, -1, 7, 1 << 62, 1 << 62}
	want := []int64{least + 9, 0, -1, 1 << 62, 0, -1, 3 ^ -1 ^ 7}
	for i, op := range ops() {
		if n := Fold(op, l...); n != want[i] {
			t.Errorf("Fold(%d, %v): %d, not %d", op, l, n, want[i])
		}
		if Fold(op) != Zero(op) || Fold(op, []int64{}...) != Zero(op) {
			t.Errorf("Fold(%d) of nothing isn't Zero", op)
		}
		for _, n := range edges() {
			if Fold(op, n) != n {
				t.Errorf("Fold(%d, %d): %d", op, n, Fold(op, n))
			}
		}
	}
	if !slices.Equal(l, []int64{3, -1, 7, 1 << 62, 1 << 62}) {
		t.Error("Fold has changed what it was handed", l)
	}
	for _, op := range others() {
		if Fold(op) != 0 || Fold(op, 5) != 0 || Fold(op, 5, greatest, least) != 0 {
			t.Errorf("Fold(%d) isn't 0", op)
		}
	}
}

// P14.1: what lies behind a list's length isn't folded
func TestFoldLength(t *testing.T) {
	l := []int64{5, 2, 100, 100}
	if n := Fold(api.RedSum, l[:2]...); n != 7 {
		t.Error(n)
	}
	if n := Fold(api.RedMax, l[:2]...); n != 5 {
		t.Error(n)
	}
}
