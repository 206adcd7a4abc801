package num

import (
	"math"
	"math/big"
	"testing"

	"outrider/api"
)

const (
	least    = math.MinInt64
	greatest = math.MaxInt64
)

// edges: numbers at which something turns, and ordinary ones.
func edges() []int64 {
	l := []int64{
		least, least + 1, least + 2, least/2 - 1, least / 2, -1<<33 + 5, -1<<32 - 1, -1 << 32, -1<<31 - 1, -1 << 31, -1<<31 + 1,
		-1000000007, -12345, -129, -128, -66, -65, -64, -63, -10, -9, -7, -6, -4, -3, -2, -1, 0,
		1, 2, 3, 4, 6, 7, 9, 10, 62, 63, 64, 65, 66, 127, 128, 12345, 1000000007,
		1<<31 - 1, 1 << 31, 1<<31 + 1, 1<<32 - 1, 1 << 32, 1<<33 - 5, 1<<62 - 1, 1 << 62, 1<<62 + 1, greatest - 1, greatest,
	}
	return l
}

// round: the lowest 64 bits of a number, read in two's complement.
func round(n *big.Int) int64 {
	low := new(big.Int).And(n, new(big.Int).SetUint64(math.MaxUint64))
	return int64(low.Uint64())
}

func one(is bool) int64 {
	if is {
		return 1
	}
	return 0
}

// wide: what an operation of two gives, reckoned without going round first.
func wide(op api.Op, a, b int64) (int64, bool) {
	x, y, z := big.NewInt(a), big.NewInt(b), new(big.Int)
	six := uint(new(big.Int).And(y, big.NewInt(63)).Uint64())
	switch op {
	case api.OpAdd:
		return round(z.Add(x, y)), true
	case api.OpSub:
		return round(z.Sub(x, y)), true
	case api.OpMul:
		return round(z.Mul(x, y)), true
	case api.OpDiv:
		if b == 0 {
			return 0, false
		}
		return round(z.Quo(x, y)), true
	case api.OpRem:
		if b == 0 {
			return 0, false
		}
		return round(z.Rem(x, y)), true
	case api.OpAnd:
		return round(z.And(x, y)), true
	case api.OpOr:
		return round(z.Or(x, y)), true
	case api.OpXor:
		return round(z.Xor(x, y)), true
	case api.OpShl:
		return round(z.Lsh(x, six)), true
	case api.OpShr:
		return round(z.Rsh(x, six)), true
	}
	return compared(op, x.Cmp(y), a, b)
}

func compared(op api.Op, c int, a, b int64) (int64, bool) {
	switch op {
	case api.OpEq:
		return one(c == 0), true
	case api.OpNe:
		return one(c != 0), true
	case api.OpLt:
		return one(c < 0), true
	case api.OpLe:
		return one(c <= 0), true
	case api.OpGt:
		return one(c > 0), true
	case api.OpGe:
		return one(c >= 0), true
	case api.OpMin:
		if c < 0 {
			return a, true
		}
		return b, true
	case api.OpMax:
		if c < 0 {
			return b, true
		}
		return a, true
	}
	return 0, false
}

// P1.1
func TestTwoSaysWhatTheTableSays(t *testing.T) {
	for _, c := range []struct {
		op      api.Op
		a, b, n int64
	}{
		{api.OpAdd, greatest, 1, least},
		{api.OpSub, least, 1, greatest},
		{api.OpMul, 1 << 62, 4, 0},
		{api.OpMul, least, -1, least},
		{api.OpDiv, -7, 2, -3},
		{api.OpDiv, 7, -2, -3},
		{api.OpDiv, least, -1, least},
		{api.OpRem, -7, 2, -1},
		{api.OpRem, 7, -2, 1},
		{api.OpRem, least, -1, 0},
		{api.OpAnd, 12, 10, 8},
		{api.OpOr, 12, 10, 14},
		{api.OpXor, 12, 10, 6},
		{api.OpShl, 1, 63, least},
		{api.OpShl, 1, 64, 1},
		{api.OpShl, 3, -1, least},
		{api.OpShr, -7, 65, -4},
		{api.OpShr, least, 63, -1},
		{api.OpShr, 7, -63, 3},
		{api.OpShr, -1, least, -1},
		{api.OpEq, 3, 3, 1},
		{api.OpNe, 3, 3, 0},
		{api.OpLt, least, greatest, 1},
		{api.OpLe, 3, 3, 1},
		{api.OpGt, least, greatest, 0},
		{api.OpGe, 3, 4, 0},
		{api.OpMin, -1, -2, -2},
		{api.OpMax, -1, -2, -1},
	} {
		if n, ok := Two(c.op, c.a, c.b); n != c.n || !ok {
			t.Errorf("Two(%d, %d, %d) = %d, %v; want %d", c.op, c.a, c.b, n, ok, c.n)
		}
	}
}

// P1.1
func TestTwoAtAllEdges(t *testing.T) {
	for op := api.OpAdd; op <= api.OpMax; op++ {
		for _, a := range edges() {
			for _, b := range edges() {
				n, ok := Two(op, a, b)
				if m, is := wide(op, a, b); n != m || ok != is {
					t.Errorf("Two(%d, %d, %d) = %d, %v; want %d, %v", op, a, b, n, ok, m, is)
				}
			}
		}
	}
}

// P1.1
func TestTwoRefuses(t *testing.T) {
	for _, op := range []api.Op{math.MinInt, -1, 0, api.OpNeg, api.OpCom, api.OpNot, 22, 257, math.MaxInt} {
		if n, ok := Two(op, 5, 3); n != 0 || ok {
			t.Errorf("Two(%d, 5, 3) = %d, %v", op, n, ok)
		}
	}
	for _, a := range edges() {
		for _, op := range []api.Op{api.OpDiv, api.OpRem} {
			if n, ok := Two(op, a, 0); n != 0 || ok {
				t.Errorf("Two(%d, %d, 0) = %d, %v", op, a, n, ok)
			}
		}
	}
}

// P1.1
func TestOne(t *testing.T) {
	for _, a := range edges() {
		z := big.NewInt(a)
		for _, c := range []struct {
			op api.Op
			n  int64
		}{
			{api.OpNeg, round(new(big.Int).Neg(z))},
			{api.OpCom, round(new(big.Int).Not(z))},
			{api.OpNot, one(a == 0)},
		} {
			if n, ok := One(c.op, a); n != c.n || !ok {
				t.Errorf("One(%d, %d) = %d, %v; want %d", c.op, a, n, ok, c.n)
			}
		}
	}
	for _, op := range []api.Op{math.MinInt, -1, 0, api.OpAdd, api.OpSub, api.OpMin, api.OpMax, 22, 275, math.MaxInt} {
		if n, ok := One(op, 5); n != 0 || ok {
			t.Errorf("One(%d, 5) = %d, %v", op, n, ok)
		}
	}
}

// P1.3
func TestFloorCutsDownwards(t *testing.T) {
	for _, c := range []struct{ a, b, q, left int64 }{
		{-7, 2, -4, 1}, {7, -2, -4, -1}, {7, 2, 3, 1}, {-7, -2, 3, -1}, {6, 3, 2, 0}, {-6, 3, -2, 0}, {0, -5, 0, 0},
		{least, -1, least, 0}, {least, 1, least, 0}, {greatest, least, -1, -1}, {least, greatest, -2, greatest - 1}, {1, least, -1, least + 1}, {-1, greatest, -1, greatest - 1},
	} {
		if q, left, e := Floor(c.a, c.b); q != c.q || left != c.left || e != api.OK {
			t.Errorf("Floor(%d, %d) = %d, %d, %d; want %d, %d", c.a, c.b, q, left, e, c.q, c.left)
		}
	}
}

// P1.3
func TestFloorAtAllEdges(t *testing.T) {
	for _, a := range edges() {
		for _, b := range edges() {
			q, left, e := Floor(a, b)
			if b == 0 {
				if q != 0 || left != 0 || e != api.ErrZero {
					t.Errorf("Floor(%d, 0) = %d, %d, %d", a, q, left, e)
				}
				continue
			}
			x, y := big.NewInt(a), big.NewInt(b)
			down, up := new(big.Int).DivMod(x, y, new(big.Int))
			if b < 0 && up.Sign() > 0 { // big leaves nothing below 0
				down.Sub(down, big.NewInt(1))
				up.Add(up, y)
			}
			if q != round(down) || left != round(up) || e != api.OK {
				t.Errorf("Floor(%d, %d) = %d, %d, %d; want %d, %d", a, b, q, left, e, down, up)
			}
		}
	}
}

// P1.4
func TestGcd(t *testing.T) {
	for _, c := range []struct {
		a, b int64
		g    uint64
	}{{0, 0, 0}, {least, 0, 1 << 63}, {0, least, 1 << 63}, {least, least, 1 << 63}, {least, -6, 2}, {12, -18, 6}, {-5, 0, 5}, {0, 7, 7}, {greatest, least, 1}} {
		if g := Gcd(c.a, c.b); g != c.g {
			t.Errorf("Gcd(%d, %d) = %d; want %d", c.a, c.b, g, c.g)
		}
	}
	for _, a := range edges() {
		for _, b := range edges() {
			x, y := new(big.Int).Abs(big.NewInt(a)), new(big.Int).Abs(big.NewInt(b))
			if g := new(big.Int).GCD(nil, nil, x, y); Gcd(a, b) != g.Uint64() {
				t.Errorf("Gcd(%d, %d) = %d; want %d", a, b, Gcd(a, b), g)
			}
		}
	}
}

// P1.5
func TestBezoutNearNought(t *testing.T) {
	for a := int64(-40); a <= 40; a++ {
		for b := int64(-40); b <= 40; b++ {
			if b == 0 {
				continue
			}
			x, y, g, e := Bezout(a, b)
			least := int64(0)
			for (int64(Gcd(a, b))-a*least)%b != 0 {
				least++
			}
			if x != least || a*x+b*y != g || g != int64(Gcd(a, b)) || e != api.OK {
				t.Errorf("Bezout(%d, %d) = %d, %d, %d, %d", a, b, x, y, g, e)
			}
		}
	}
}

// P1.5
func TestBezoutOfNought(t *testing.T) {
	for _, c := range []struct{ a, x, g int64 }{{0, 0, 0}, {5, 1, 5}, {-3, -1, 3}, {1 << 31, 1, 1 << 31}, {-1 << 31, -1, 1 << 31}} {
		if x, y, g, e := Bezout(c.a, 0); x != c.x || y != 0 || g != c.g || e != api.OK {
			t.Errorf("Bezout(%d, 0) = %d, %d, %d, %d", c.a, x, y, g, e)
		}
	}
}

// P1.5
func TestBezoutAtAllEdges(t *testing.T) {
	for _, a := range edges() {
		for _, b := range edges() {
			x, y, g, e := Bezout(a, b)
			if a > 1<<31 || a < -1<<31 || b > 1<<31 || b < -1<<31 {
				if x != 0 || y != 0 || g != 0 || e != api.ErrRange {
					t.Errorf("Bezout(%d, %d) = %d, %d, %d, %d", a, b, x, y, g, e)
				}
				continue
			}
			if e != api.OK || uint64(g) != Gcd(a, b) || a*x+b*y != g {
				t.Errorf("Bezout(%d, %d) = %d, %d, %d, %d", a, b, x, y, g, e)
			}
			if b == 0 {
				continue
			}
			apart := b / g // the x that do lie so far from one another
			if x < 0 || apart > 0 && x >= apart || apart < 0 && x >= -apart {
				t.Errorf("Bezout(%d, %d): %d isn't the least", a, b, x)
			}
		}
	}
}

// P1.6
func TestPlusTimes(t *testing.T) {
	counts := []int{
		math.MinInt, -1 << 31, -2, -1, 0, 1, 2, 3, 7, 1000, 1<<31 - 1, 1 << 31, 1<<32 - 1, 1 << 32, 3037000499, 3037000500, 1<<62 - 1, 1 << 62, 1<<62 + 1, math.MaxInt / 3, math.MaxInt - 1, math.MaxInt,
	}
	top := big.NewInt(math.MaxInt)
	cut := func(n *big.Int) int {
		if n.Cmp(top) > 0 {
			return math.MaxInt
		}
		return int(n.Int64())
	}
	for _, a := range counts {
		for _, b := range counts {
			x, y := big.NewInt(int64(max(a, 0))), big.NewInt(int64(max(b, 0)))
			if n, want := Plus(a, b), cut(new(big.Int).Add(x, y)); n != want {
				t.Errorf("Plus(%d, %d) = %d; want %d", a, b, n, want)
			}
			if n, want := Times(a, b), cut(new(big.Int).Mul(x, y)); n != want {
				t.Errorf("Times(%d, %d) = %d; want %d", a, b, n, want)
			}
		}
	}
	if Plus(math.MaxInt, 1) != math.MaxInt || Plus(math.MaxInt-1, 1) != math.MaxInt || Plus(-5, 3) != 3 || Plus(-5, -3) != 0 {
		t.Error("Plus")
	}
	if Times(1<<62, 2) != math.MaxInt || Times(math.MaxInt, 0) != 0 || Times(-2, -3) != 0 || Times(6, 7) != 42 {
		t.Error("Times")
	}
}
