package eval

import (
	"outrider/api"
	"outrider/tree"
)

// names are the values that names were given last, by their registers. When a block ends, nothing is to be done: a register is another name's only from where that one is declared, and so given a value.
type names [api.Regs]int64

func (n *names) give(slot int, value int64) {
	n[slot] = value
}

func (n *names) of(slot int) int64 {
	return n[slot]
}

// marker marks names with their registers.
type marker struct {
	slots []int // of the names that aren't marked yet, as layer 6 goes through them
}

// marked: the same statements in new memory, each name with its register beside it, so that none is looked for again and again as they are done. The register stands in a field that is nought in all others of that Kind: Num of ExprName, Cell of StmtVar and StmtSet.
func marked(l []api.Stmt, slots []int) []api.Stmt {
	c := tree.Copy(l)
	k := &marker{slots: slots}
	k.stmts(c)
	return c
}

func (k *marker) next() int {
	slot := k.slots[0]
	k.slots = k.slots[1:]
	return slot
}

func (k *marker) stmts(l []api.Stmt) {
	for i := range l {
		s := &l[i]
		k.exprs(s.Args)
		if s.Kind == api.StmtVar || s.Kind == api.StmtSet {
			s.Cell = k.next()
		}
		k.stmts(s.Body)
		k.stmts(s.Else)
	}
}

func (k *marker) exprs(l []api.Expr) {
	for i := range l {
		e := &l[i]
		k.exprs(e.Args)
		if e.Kind == api.ExprName {
			e.Num = int64(k.next())
		}
	}
}
