// Package num is layer 1: see shared/doc/01-num.md.
package num

import (
	"math"

	"outrider/api"
)

// Two: what an operation of two numbers gives, and true; 0 and false, if it divides by 0, or is none of two.
func Two(op api.Op, a, b int64) (int64, bool) {
	switch op {
	case api.OpAdd:
		return a + b, true
	case api.OpSub:
		return a - b, true
	case api.OpMul:
		return a * b, true
	case api.OpDiv, api.OpRem:
		return divide(op, a, b)
	case api.OpAnd:
		return a & b, true
	case api.OpOr:
		return a | b, true
	case api.OpXor:
		return a ^ b, true
	case api.OpShl:
		return a << lowSix(b), true
	case api.OpShr:
		return a >> lowSix(b), true
	case api.OpEq:
		return truth(a == b), true
	case api.OpNe:
		return truth(a != b), true
	case api.OpLt:
		return truth(a < b), true
	case api.OpLe:
		return truth(a <= b), true
	case api.OpGt:
		return truth(a > b), true
	case api.OpGe:
		return truth(a >= b), true
	case api.OpMin:
		return min(a, b), true
	case api.OpMax:
		return max(a, b), true
	}
	return 0, false
}

// One: what an operation of one number gives, and true; 0 and false, if it is none of one.
func One(op api.Op, a int64) (int64, bool) {
	switch op {
	case api.OpNeg:
		return -a, true
	case api.OpCom:
		return ^a, true
	case api.OpNot:
		return truth(a == 0), true
	}
	return 0, false
}

// divide needs no case of its own for the least number and -1: the language lets that quotient go round, and leaves 0.
func divide(op api.Op, a, b int64) (int64, bool) {
	if b == 0 {
		return 0, false
	}
	if op == api.OpDiv {
		return a / b, true
	}
	return a % b, true
}

func lowSix(b int64) uint64 {
	return uint64(b) & 63
}

func truth(is bool) int64 {
	if is {
		return 1
	}
	return 0
}

// size: how far a number is from 0. It has no sign, since the least number's is above the greatest number.
func size(n int64) uint64 {
	if n < 0 {
		return -uint64(n)
	}
	return uint64(n)
}

// Floor: the quotient, cut downwards, and what is left, which has the sign of b.
func Floor(a, b int64) (int64, int64, api.Errno) {
	if b == 0 {
		return 0, 0, api.ErrZero
	}
	q, left := a/b, a%b
	if left != 0 && (left < 0) != (b < 0) {
		q, left = q-1, left+b
	}
	return q, left, api.OK
}

// Gcd: the greatest number that divides both; 0 of two noughts.
func Gcd(a, b int64) uint64 {
	x, y := size(a), size(b)
	for y != 0 {
		x, y = y, x%y
	}
	return x
}

// bezoutSize bounds what Bezout takes: within it, no product of two such numbers goes round.
const bezoutSize = 1 << 31

// Bezout: of a and b, no further from 0 than 2^31: x, y and g with a*x + b*y = g = Gcd(a, b), x from 0 on and the least one.
func Bezout(a, b int64) (int64, int64, int64, api.Errno) {
	if size(a) > bezoutSize || size(b) > bezoutSize {
		return 0, 0, 0, api.ErrRange
	}
	g := int64(Gcd(a, b))
	if b == 0 {
		return sign(a), 0, g, api.OK
	}
	apart := int64(size(b)) / g
	// All x that do lie so far from one another: what is left of one of them is the least from 0 on.
	_, x, _ := Floor(someFactor(a, b), apart)
	return x, (g - a*x) / b, g, api.OK
}

// someFactor: an x for which a*x is Gcd(a, b) and some number of times b more or less.
func someFactor(a, b int64) int64 {
	x, next := int64(1), int64(0)
	for b != 0 {
		q := a / b
		a, b = b, a-q*b
		x, next = next, x-q*next
	}
	if a < 0 {
		return -x
	}
	return x
}

func sign(n int64) int64 {
	return truth(n > 0) - truth(n < 0)
}

// Plus: the sum of two counts (those below 0 count as 0); the greatest int, where it is above that.
func Plus(a, b int) int {
	a, b = max(a, 0), max(b, 0)
	if a > math.MaxInt-b {
		return math.MaxInt
	}
	return a + b
}

// Times: the product of two counts, likewise.
func Times(a, b int) int {
	a, b = max(a, 0), max(b, 0)
	if b != 0 && a > math.MaxInt/b {
		return math.MaxInt
	}
	return a * b
}
