package show

import (
	"outrider/api"
	"outrider/num"
	"outrider/tree"
)

// noSign is the rank of what has no sign between: stronger than all signs, so that it never needs brackets.
const noSign = 9

// signsBetween are the signs of operations of two, but of min and max, which have none between.
var signsBetween = [...]string{
	api.OpAdd: "+",
	api.OpSub: "-",
	api.OpMul: "*",
	api.OpDiv: "/",
	api.OpRem: "%",
	api.OpAnd: "&",
	api.OpOr:  "|",
	api.OpXor: "^",
	api.OpShl: "<<",
	api.OpShr: ">>",
	api.OpEq:  "==",
	api.OpNe:  "!=",
	api.OpLt:  "<",
	api.OpLe:  "<=",
	api.OpGt:  ">",
	api.OpGe:  ">=",
}

// Sign: the sign of an operation that stands between two expressions, and its rank; the empty text and 0 of others.
func Sign(op api.Op) (string, int) {
	if op < 0 || int(op) >= len(signsBetween) {
		return "", 0
	}
	sign := signsBetween[op]
	rank, _ := tree.Rank(sign)
	return sign, rank
}

// ahead: what stands ahead of an expression, of an operation of one.
func ahead(op api.Op) string {
	switch op {
	case api.OpNeg:
		return "-"
	case api.OpCom:
		return "~"
	}
	return "!"
}

// exprText counts on an expression that is right: it has the Args that its Kind names.
func exprText(e api.Expr) string {
	switch e.Kind {
	case api.ExprNum:
		return num.Text(e.Num)
	case api.ExprName:
		return e.Name
	case api.ExprMem:
		return word(e.Args[0])
	case api.ExprOne:
		return ahead(e.Op) + bound(e.Args[0], noSign)
	}
	return twoText(e.Op, e.Args[0], e.Args[1])
}

// word: the word of memory at an address.
func word(address api.Expr) string {
	return "m[" + exprText(address) + "]"
}

func twoText(op api.Op, left, right api.Expr) string {
	switch op {
	case api.OpMin:
		return pair("min", left, right)
	case api.OpMax:
		return pair("max", left, right)
	}
	sign, rank := Sign(op)
	// Signs of one rank are put together from the left: there the same rank needs no brackets, on the right it does.
	return bound(left, rank) + " " + sign + " " + bound(right, rank+1)
}

func pair(word string, first, second api.Expr) string {
	return word + "(" + exprText(first) + ", " + exprText(second) + ")"
}

// bound: an expression's text where all must bind at least so strongly: what is weaker is put in brackets.
func bound(e api.Expr, least int) string {
	if rankOf(e) < least {
		return "(" + exprText(e) + ")"
	}
	return exprText(e)
}

// rankOf: how strongly an expression's own sign binds.
func rankOf(e api.Expr) int {
	if _, rank := Sign(e.Op); rank > 0 {
		return rank
	}
	return noSign
}
