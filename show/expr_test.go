package show

import (
	"math"
	"strings"
	"testing"

	"outrider/api"
	"outrider/tree"
)

func number(n int64) api.Expr { return api.Expr{Kind: api.ExprNum, Num: n} }

func named(s string) api.Expr { return api.Expr{Kind: api.ExprName, Name: s} }

func memory(at api.Expr) api.Expr { return api.Expr{Kind: api.ExprMem, Args: []api.Expr{at}} }

func one(op api.Op, e api.Expr) api.Expr {
	return api.Expr{Kind: api.ExprOne, Op: op, Args: []api.Expr{e}}
}

func two(op api.Op, a, b api.Expr) api.Expr {
	return api.Expr{Kind: api.ExprTwo, Op: op, Args: []api.Expr{a, b}}
}

// between: the operations with a sign between, with their ranks, as the document's grammar lists them.
func between() []struct {
	op   api.Op
	sign string
	rank int
} {
	return []struct {
		op   api.Op
		sign string
		rank int
	}{
		{api.OpOr, "|", 1}, {api.OpXor, "^", 2}, {api.OpAnd, "&", 3}, {api.OpEq, "==", 4}, {api.OpNe, "!=", 4},
		{api.OpLt, "<", 5}, {api.OpLe, "<=", 5}, {api.OpGt, ">", 5}, {api.OpGe, ">=", 5}, {api.OpShl, "<<", 6}, {api.OpShr, ">>", 6},
		{api.OpAdd, "+", 7}, {api.OpSub, "-", 7}, {api.OpMul, "*", 8}, {api.OpDiv, "/", 8}, {api.OpRem, "%", 8},
	}
}

// P5.2
func TestSign(t *testing.T) {
	var told [22]bool
	for _, b := range between() {
		told[b.op] = true
		if sign, rank := Sign(b.op); sign != b.sign || rank != b.rank {
			t.Errorf("%d: %q %d, not %q %d", b.op, sign, rank, b.sign, b.rank)
		}
		if rank, op := tree.Rank(b.sign); rank != b.rank || op != b.op {
			t.Errorf("%q: %d %d", b.sign, rank, op)
		}
	}
	others := []api.Op{math.MinInt, math.MinInt + 1, -1 << 40, -19, -2, -1, 22, 23, 24, 100, 1 << 32, 1<<32 + 1, math.MaxInt}
	for op, is := range told {
		if !is {
			others = append(others, api.Op(op))
		}
	}
	for _, op := range others {
		if sign, rank := Sign(op); sign != "" || rank != 0 {
			t.Errorf("%d: %q %d", op, sign, rank)
		}
	}
}

func writes(t *testing.T, e api.Expr, want string) {
	t.Helper()
	if got := Expr(e); got != want {
		t.Errorf("%q, not %q", got, want)
	}
	statement := []api.Stmt{{Kind: api.StmtEmit, Args: []api.Expr{e}}}
	if got, no := Text(statement); got != "emit "+want+";\n" || no != api.OK {
		t.Errorf("put out: %q %d", got, no)
	}
	if l, _, no := tree.Parse("emit " + want + ";"); no != api.OK || !tree.Same(l, statement) {
		t.Errorf("%q is parsed as another: %d", want, no)
	}
}

// P5.2: each kind of expression
func TestExpr(t *testing.T) {
	x, i, n := named("x"), named("i"), number(1)
	sum, least, most := two(api.OpAdd, i, n), two(api.OpMin, x, i), two(api.OpMax, i, x)
	for _, c := range []struct {
		e    api.Expr
		want string
	}{
		{number(0), "0"}, {number(7), "7"}, {number(1000000), "1000000"}, {number(math.MaxInt64), "9223372036854775807"},
		{x, "x"}, {named("_"), "_"}, {named("abcdefghijkl"), "abcdefghijkl"}, {named("minx"), "minx"},
		{memory(n), "m[1]"}, {memory(memory(x)), "m[m[x]]"}, {memory(sum), "m[i + 1]"}, {memory(one(api.OpNeg, n)), "m[-1]"}, {memory(least), "m[min(x, i)]"},
		{one(api.OpNeg, x), "-x"}, {one(api.OpCom, x), "~x"}, {one(api.OpNot, x), "!x"},
		{one(api.OpNeg, one(api.OpNeg, n)), "--1"}, {one(api.OpNot, one(api.OpNot, x)), "!!x"}, {one(api.OpNeg, one(api.OpNot, one(api.OpCom, x))), "-!~x"},
		{one(api.OpNeg, memory(sum)), "-m[i + 1]"}, {one(api.OpNeg, number(5)), "-5"},
		{one(api.OpNeg, sum), "-(i + 1)"}, {one(api.OpCom, sum), "~(i + 1)"}, {one(api.OpNot, sum), "!(i + 1)"}, {one(api.OpNeg, one(api.OpNot, sum)), "-!(i + 1)"},
		{one(api.OpNeg, least), "-min(x, i)"}, {one(api.OpNot, most), "!max(i, x)"}, {one(api.OpCom, two(api.OpMin, sum, n)), "~min(i + 1, 1)"},
		{least, "min(x, i)"}, {most, "max(i, x)"}, {two(api.OpMin, sum, one(api.OpNeg, sum)), "min(i + 1, -(i + 1))"}, {two(api.OpMax, least, most), "max(min(x, i), max(i, x))"},
		{two(api.OpMin, two(api.OpOr, x, i), two(api.OpMul, x, i)), "min(x | i, x * i)"},
		{two(api.OpMul, least, most), "min(x, i) * max(i, x)"}, {two(api.OpSub, most, most), "max(i, x) - max(i, x)"},
		{two(api.OpSub, n, two(api.OpSub, number(2), number(3))), "1 - (2 - 3)"}, {two(api.OpSub, two(api.OpSub, n, number(2)), number(3)), "1 - 2 - 3"},
		{two(api.OpMul, one(api.OpNeg, one(api.OpNot, x)), number(2)), "-!x * 2"}, {two(api.OpSub, x, one(api.OpNeg, i)), "x - -i"}, {two(api.OpMul, one(api.OpNeg, sum), sum), "-(i + 1) * (i + 1)"},
		{two(api.OpAdd, memory(sum), memory(sum)), "m[i + 1] + m[i + 1]"},
		{two(api.OpOr, two(api.OpAnd, x, i), two(api.OpXor, x, two(api.OpOr, x, i))), "x & i | x ^ (x | i)"},
	} {
		writes(t, c.e, c.want)
	}
}

// P5.2, P5.3: each sign within each other one, on the left, on the right and on both
func TestBrackets(t *testing.T) {
	x, i, k := named("x"), named("i"), named("k")
	for _, out := range between() {
		writes(t, two(out.op, x, i), "x "+out.sign+" i")
		for _, in := range between() {
			inner := two(in.op, x, i)
			plain := "x " + in.sign + " i"
			left, right := plain, plain
			if in.rank < out.rank {
				left = "(" + plain + ")"
			}
			if in.rank <= out.rank {
				right = "(" + plain + ")"
			}
			writes(t, two(out.op, inner, k), left+" "+out.sign+" k")
			writes(t, two(out.op, k, inner), "k "+out.sign+" "+right)
			writes(t, two(out.op, inner, inner), left+" "+out.sign+" "+right)
			writes(t, two(out.op, one(api.OpNeg, inner), one(api.OpCom, inner)), "-("+plain+") "+out.sign+" ~("+plain+")")
			writes(t, two(api.OpMax, two(out.op, k, inner), inner), "max(k "+out.sign+" "+right+", "+plain+")")
			writes(t, memory(two(out.op, inner, k)), "m["+left+" "+out.sign+" k]")
		}
		for _, ahead := range []struct {
			op   api.Op
			sign string
		}{{api.OpNeg, "-"}, {api.OpCom, "~"}, {api.OpNot, "!"}} {
			writes(t, one(ahead.op, two(out.op, x, i)), ahead.sign+"(x "+out.sign+" i)")
			writes(t, two(out.op, one(ahead.op, x), one(ahead.op, i)), ahead.sign+"x "+out.sign+" "+ahead.sign+"i")
		}
		for _, pair := range []struct {
			op   api.Op
			word string
		}{{api.OpMin, "min"}, {api.OpMax, "max"}} {
			e, s := two(pair.op, two(out.op, x, i), two(out.op, i, x)), pair.word+"(x "+out.sign+" i, i "+out.sign+" x)"
			writes(t, two(out.op, e, e), s+" "+out.sign+" "+s)
			writes(t, one(api.OpNot, e), "!"+s)
		}
	}
}

// P5.2: the greatest expressions that are right in a statement
func TestExprLimits(t *testing.T) {
	deep := number(1)
	for range 47 {
		deep = one(api.OpNeg, deep)
	}
	writes(t, deep, strings.Repeat("-", 47)+"1")
	rightmost := number(1)
	for range 47 {
		rightmost = two(api.OpSub, number(2), rightmost)
	}
	writes(t, rightmost, strings.Repeat("2 - (", 46)+"2 - 1"+strings.Repeat(")", 46))
	// The brackets of a test, and of a word of memory, are open beside all of these.
	for _, s := range []api.Stmt{
		{Kind: api.StmtIf, Args: []api.Expr{rightmost}}, {Kind: api.StmtWhile, Args: []api.Expr{deep}}, {Kind: api.StmtStore, Args: []api.Expr{deep, rightmost}},
	} {
		holds(t, []api.Stmt{s})
	}

	// 599 expressions, with the statement 600 nodes: a row of sums, and what is left as signs of one number.
	wide, text := number(1), "1"
	full := func(deep int) api.Expr {
		e := number(1)
		for range deep {
			e = two(api.OpMin, e, e)
		}
		return e
	}
	for range 9 {
		wide, text = two(api.OpAdd, wide, full(5)), text+" + "+Expr(full(5))
	}
	wide, text = two(api.OpAdd, wide, full(3)), text+" + "+Expr(full(3))
	for tree.Nodes([]api.Stmt{{Kind: api.StmtEmit, Args: []api.Expr{wide}}}) < 600 {
		if rankOf(wide) < noSign {
			text = "(" + text + ")"
		}
		wide, text = one(api.OpNot, wide), "!"+text
	}
	writes(t, wide, text)
}

// wrongExprs: expressions of which nothing is promised but that the call ends.
func wrongExprs() []api.Expr {
	x := named("x")
	l := []api.Expr{{}, {Kind: -1}, {Kind: 6}, {Kind: math.MaxInt}, {Kind: math.MinInt}, number(-1), number(math.MinInt64), named(""), named("if"), named("a b")}
	for kind := api.ExprKind(-1); kind < 8; kind++ {
		for _, op := range []api.Op{math.MinInt, -1, 0, api.OpAdd, api.OpGe, api.OpMin, api.OpMax, api.OpNeg, api.OpNot, 22, math.MaxInt} {
			for _, args := range [][]api.Expr{nil, {}, {x}, {{}}, {x, x}, {x, {}}, {x, x, x}, {{Kind: api.ExprTwo, Op: op}}} {
				l = append(l, api.Expr{Kind: kind, Op: op, Args: args}, api.Expr{Kind: kind, Op: op, Args: args, Num: -7, Name: "if"})
			}
		}
	}
	deep, shared := x, x
	for range 60000 {
		deep = one(api.OpNeg, deep)
	}
	for range 47 {
		shared = two(api.OpAdd, shared, shared)
	}
	return append(l, deep, shared)
}

// P1, P5.2: of others some text
func TestWrongExprs(t *testing.T) {
	for _, e := range wrongExprs() {
		if Expr(e) != Expr(e) {
			t.Error("two texts of one expression")
		}
		l := []api.Stmt{{Kind: api.StmtEmit, Args: []api.Expr{e}}}
		if s, no := Text(l); !tree.Right(l) && (s != "" || no != api.ErrTree) {
			t.Errorf("%q %d", s, no)
		}
	}
}
