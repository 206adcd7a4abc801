package tree

import (
	"outrider/api"
	"outrider/lex"
)

// lastCell is the greatest number that may stand behind into.
const lastCell = 255

// exprHas says by Kind what an expression has: a number, a name, an operation (from one to another), so many Args.
var exprHas = [...]struct {
	num, name   bool
	first, last api.Op
	args        int
}{
	api.ExprNum:  {num: true},
	api.ExprName: {name: true},
	api.ExprMem:  {args: 1},
	api.ExprOne:  {first: api.OpNeg, last: api.OpNot, args: 1},
	api.ExprTwo:  {first: api.OpAdd, last: api.OpMax, args: 2},
}

// stmtHas says by Kind what a statement has.
var stmtHas = [...]struct {
	name, cell, body, other bool
	args                    int
}{
	api.StmtVar:   {name: true, args: 1},
	api.StmtSet:   {name: true, args: 1},
	api.StmtStore: {args: 2},
	api.StmtEmit:  {args: 1},
	api.StmtInto:  {cell: true, args: 1},
	api.StmtIf:    {args: 1, body: true, other: true},
	api.StmtWhile: {args: 1, body: true},
	api.StmtFail:  {args: 1},
	api.StmtStop:  {},
}

// looker looks statements over; it stops at the first node too many, so that it needn't go through all of them.
type looker struct {
	nodes int
}

// Right: may these statements be? Each has what its Kind names, and nothing else; names are names; nothing is too deep, too many, within too many blocks.
func Right(l []api.Stmt) bool {
	k := &looker{}
	return k.stmts(l, 0)
}

// stmts: are they right, within so many blocks?
func (k *looker) stmts(l []api.Stmt, within int) bool {
	for _, s := range l {
		if !k.another() || !stmtFits(s) || !k.exprs(s.Args, 1) || !k.blocks(s, within) {
			return false
		}
	}
	return true
}

func (k *looker) another() bool {
	k.nodes++
	return k.nodes <= api.MaxNodes
}

// blocks: are those of a statement right? Its Body is one even if it is empty, so that an Else, which lies as deep, needs no look of its own.
func (k *looker) blocks(s api.Stmt, within int) bool {
	if stmtHas[s.Kind].body && within >= api.MaxBlock {
		return false
	}
	return k.stmts(s.Body, within+1) && k.stmts(s.Else, within+1)
}

// exprs: are they right, the deep-th from the statement on?
func (k *looker) exprs(l []api.Expr, deep int) bool {
	for _, e := range l {
		if deep > api.MaxDeep || !k.another() || !exprFits(e) || !k.exprs(e.Args, deep+1) {
			return false
		}
	}
	return true
}

func exprFits(e api.Expr) bool {
	if e.Kind < api.ExprNum || e.Kind > api.ExprTwo {
		return false
	}
	has := exprHas[e.Kind]
	return (e.Num == 0 || has.num && e.Num > 0) && nameFits(e.Name, has.name) &&
		e.Op >= has.first && e.Op <= has.last && len(e.Args) == has.args
}

func stmtFits(s api.Stmt) bool {
	if s.Kind < api.StmtVar || s.Kind > api.StmtStop {
		return false
	}
	has := stmtHas[s.Kind]
	return nameFits(s.Name, has.name) && (s.Cell == 0 || has.cell && s.Cell > 0 && s.Cell <= lastCell) &&
		len(s.Args) == has.args && (has.body || len(s.Body) == 0) && (has.other || len(s.Else) == 0)
}

// nameFits: a name where there is one, else none.
func nameFits(name string, has bool) bool {
	if has {
		return lex.Name(name)
	}
	return name == ""
}
