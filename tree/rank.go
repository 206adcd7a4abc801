package tree

import (
	"outrider/api"
)

// signs are those between two expressions, the weakest first.
var signs = [...]struct {
	text string
	rank int
	op   api.Op
}{
	{"|", 1, api.OpOr},
	{"^", 2, api.OpXor},
	{"&", 3, api.OpAnd},
	{"==", 4, api.OpEq},
	{"!=", 4, api.OpNe},
	{"<", 5, api.OpLt},
	{"<=", 5, api.OpLe},
	{">", 5, api.OpGt},
	{">=", 5, api.OpGe},
	{"<<", 6, api.OpShl},
	{">>", 6, api.OpShr},
	{"+", 7, api.OpAdd},
	{"-", 7, api.OpSub},
	{"*", 8, api.OpMul},
	{"/", 8, api.OpDiv},
	{"%", 8, api.OpRem},
}

// Rank: how strongly a sign binds, from 1 on, and its operation; 0 and 0, if it is none between two expressions.
func Rank(sign string) (int, api.Op) {
	for _, s := range signs {
		if s.text == sign {
			return s.rank, s.op
		}
	}
	return 0, 0
}
