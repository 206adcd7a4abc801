package gen

import (
	"outrider/api"
)

// maker makes the instructions of statements that are right. It goes through them as layer 6 does, so that the registers of their names come in the order in which they are needed.
type maker struct {
	slots []int // of the names that aren't come to yet
	code  []api.Ins
}

// insOf says by Kind with which instruction an expression ends; a name has none.
var insOf = [...]api.InsKind{
	api.ExprNum: api.InsConst,
	api.ExprMem: api.InsLoad,
	api.ExprOne: api.InsOne,
	api.ExprTwo: api.InsTwo,
}

func (m *maker) slot() int {
	slot := m.slots[0]
	m.slots = m.slots[1:]
	return slot
}

// put: the place of the instruction that is put behind all others.
func (m *maker) put(x api.Ins) int {
	m.code = append(m.code, x)
	return len(m.code) - 1
}

// aimBehind has an instruction go on behind all that are made; there will be one, since a text ends in a halt.
func (m *maker) aimBehind(at int) {
	m.code[at].K = int64(len(m.code))
}

func (m *maker) text(l []api.Stmt) {
	m.block(l)
	m.put(api.Ins{Kind: api.InsHalt})
}

func (m *maker) block(l []api.Stmt) {
	for _, s := range l {
		m.stmt(s)
	}
}

func (m *maker) stmt(s api.Stmt) {
	first := len(m.code)
	at := m.values(s.Args, api.FirstTemp)
	switch s.Kind {
	case api.StmtVar, api.StmtSet:
		m.give(m.slot(), s.Args[0].Kind, at[0])
	case api.StmtStore:
		m.put(api.Ins{Kind: api.InsStore, A: at[1], B: at[0]})
	case api.StmtEmit:
		m.put(api.Ins{Kind: api.InsEmit, A: at[0]})
	case api.StmtInto:
		m.put(api.Ins{Kind: api.InsInto, A: at[0], C: s.Cell})
	case api.StmtIf:
		m.either(s, at[0])
	case api.StmtWhile:
		m.again(s, at[0], first)
	case api.StmtFail:
		m.put(api.Ins{Kind: api.InsFail, A: at[0]})
	case api.StmtStop:
		m.put(api.Ins{Kind: api.InsHalt})
	}
}

// give: a value that is made goes to the name's register straight away; one that is another name's has nothing that could take it there.
func (m *maker) give(slot int, kind api.ExprKind, at int) {
	if kind == api.ExprName {
		m.put(api.Ins{Kind: api.InsMove, A: slot, B: at})
		return
	}
	m.code[len(m.code)-1].A = slot
}

// either does an if, whose test is in a register.
func (m *maker) either(s api.Stmt, test int) {
	over := m.put(api.Ins{Kind: api.InsZero, A: test})
	m.block(s.Body)
	if len(s.Else) > 0 {
		jump := m.put(api.Ins{Kind: api.InsJump})
		m.aimBehind(over)
		m.block(s.Else)
		over = jump
	}
	m.aimBehind(over)
}

// again does a while, whose test is in a register, and begins at a place.
func (m *maker) again(s api.Stmt, test, first int) {
	over := m.put(api.Ins{Kind: api.InsZero, A: test})
	m.block(s.Body)
	m.put(api.Ins{Kind: api.InsJump, K: int64(first)})
	m.aimBehind(over)
}

// values: the registers of expressions, which are two at most, made one behind the other; free is the first register that may be taken. No name's is that one, so that it is taken if a value is there.
func (m *maker) values(l []api.Expr, free int) (at [2]int) {
	for i, e := range l {
		at[i] = m.value(e, free)
		if at[i] == free {
			free++
		}
	}
	return at
}

// value: the register of an expression. One that isn't a name needs the free one, and has its parts there and behind. Of a tree that is right, what a Kind hasn't is nought, as it is of an instruction.
func (m *maker) value(e api.Expr, free int) int {
	if e.Kind == api.ExprName {
		return m.slot()
	}
	if free == api.Regs {
		giveUp(api.ErrDeep)
	}
	at := m.values(e.Args, free)
	m.put(api.Ins{Kind: insOf[e.Kind], Op: e.Op, A: free, B: at[0], C: at[1], K: e.Num})
	return free
}
