package eval

import (
	"slices"

	"outrider/api"
	"outrider/num"
)

// ending is what a run is left with.
type ending struct {
	over  api.Over
	value int64
}

// machine does statements that are right and marked.
type machine struct {
	names
	did   api.Effect // what the run has done
	bound int        // how many ticks it has in all
}

func newMachine(in api.Input, bound int) *machine {
	return &machine{
		names: names{in.N, in.I, in.K},
		did:   api.Effect{Mem: slices.Clone(in.Mem)},
		bound: bound,
	}
}

// run does the statements till the run is left, be it behind the last of them.
func (m *machine) run(l []api.Stmt) {
	defer func() {
		if end, is := recover().(ending); is {
			m.did.Over, m.did.Value = end.over, end.value
		}
	}()
	m.block(l)
	leave(api.Halted, 0)
}

// leave goes straight back to run, from however deep within.
func leave(over api.Over, value int64) {
	panic(ending{over, value})
}

func (m *machine) block(l []api.Stmt) {
	for i := range l {
		m.stmt(&l[i])
	}
}

func (m *machine) stmt(s *api.Stmt) {
	v := m.begin(s)
	switch s.Kind {
	case api.StmtVar, api.StmtSet:
		m.give(s.Cell, v[0])
	case api.StmtStore:
		*m.word(v[0]) = v[1]
	case api.StmtEmit:
		m.did.Outs = append(m.did.Outs, v[0])
	case api.StmtInto:
		m.did.Intos = append(m.did.Intos, api.Into{Cell: s.Cell, Value: v[0]})
	case api.StmtIf:
		m.choose(s, v[0])
	case api.StmtWhile:
		for ; v[0] != 0; v = m.begin(s) {
			m.block(s.Body)
		}
	case api.StmtFail:
		leave(api.Failed, v[0])
	case api.StmtStop:
		leave(api.Halted, 0)
	}
}

// begin takes a tick, ahead of all else, and finds the values of the Args, which are two at most. A while begins anew for each of its tests.
func (m *machine) begin(s *api.Stmt) (v [2]int64) {
	m.tick()
	for i := range s.Args {
		v[i] = m.value(&s.Args[i])
	}
	return v
}

func (m *machine) tick() {
	if m.did.Ticks >= m.bound {
		leave(api.Going, 0)
	}
	m.did.Ticks++
}

func (m *machine) choose(s *api.Stmt, test int64) {
	if test != 0 {
		m.block(s.Body)
	} else {
		m.block(s.Else)
	}
}

func (m *machine) value(e *api.Expr) int64 {
	switch e.Kind {
	case api.ExprName:
		return m.of(int(e.Num))
	case api.ExprMem:
		return *m.word(m.value(&e.Args[0]))
	case api.ExprOne:
		n, _ := num.One(e.Op, m.value(&e.Args[0]))
		return n
	case api.ExprTwo:
		return two(e.Op, m.value(&e.Args[0]), m.value(&e.Args[1]))
	}
	return e.Num
}

// two: since the operation is one of two, layer 1 refuses nothing but to divide by 0.
func two(op api.Op, a, b int64) int64 {
	n, is := num.Two(op, a, b)
	if !is {
		leave(api.Divided, 0)
	}
	return n
}

// word: the one at an address, be it to read or to store.
func (m *machine) word(at int64) *int64 {
	if at < 0 || at >= int64(len(m.did.Mem)) {
		leave(api.Outside, at)
	}
	return &m.did.Mem[at]
}
