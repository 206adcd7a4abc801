package dep

import (
	"outrider/api"
	"outrider/num"
)

// How far from 0 the numbers of forms may be: so neither sums and products of them go round, nor what they are at an index of a loop that is judged.
const (
	mostA      = 1 << 30
	mostC      = 1 << 60
	mostFactor = 1 << 30
)

func near(n, most int64) bool {
	return n >= -most && n <= most
}

// kept: the form of these numbers, if they are near enough to 0; else one that isn't known.
func kept(a, c int64) Form {
	if !near(a, mostA) || !near(c, mostC) {
		return Form{}
	}
	return Form{Known: true, A: a, C: c}
}

func number(n int64) Form {
	return kept(0, n)
}

// isNumber: is it one number, whatever the index?
func isNumber(f Form) bool {
	return f.Known && f.A == 0
}

// at: what a known form is at an index.
func at(f Form, index int64) int64 {
	return f.A*index + f.C
}

// address: where an access of a register's form and its own number goes; that number is held to the same bounds as one in a register.
func address(f Form, k int64) Form {
	return ofTwo(api.OpAdd, f, number(k))
}

func ofOne(op api.Op, f Form) Form {
	if isNumber(f) {
		n, _ := num.One(op, f.C)
		return number(n)
	}
	if f.Known && op == api.OpNeg {
		return kept(-f.A, -f.C)
	}
	return Form{}
}

// ofTwo is never asked to divide by 0: the telling has ended there.
func ofTwo(op api.Op, f, g Form) Form {
	if isNumber(f) && isNumber(g) {
		n, _ := num.Two(op, f.C, g.C)
		return number(n)
	}
	if !f.Known || !g.Known {
		return Form{}
	}
	switch op {
	case api.OpAdd:
		return kept(f.A+g.A, f.C+g.C)
	case api.OpSub:
		return kept(f.A-g.A, f.C-g.C)
	case api.OpMul:
		return product(f, g)
	}
	return Form{}
}

// product is of two known forms, one of which at least isn't one number.
func product(f, g Form) Form {
	if f.A == 0 {
		f, g = g, f
	}
	if g.A != 0 || !near(g.C, mostFactor) || !near(f.C, mostFactor) {
		return Form{}
	}
	return kept(f.A*g.C, f.C*g.C)
}
