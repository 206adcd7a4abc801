package eval

import (
	"math/rand"
	"slices"
	"testing"

	"outrider/api"
	"outrider/num"
	"outrider/tree"
)

// piece is a statement, or a while's test, of a reference that goes from piece to piece instead of into blocks: each takes one tick.
type piece struct {
	s       api.Stmt
	yes, no int // where it goes on, if the value isn't 0 (of an if or a while), and else
}

// flat: the pieces of statements, behind those that are there; the last of them goes on at the first one that isn't.
func flat(l []api.Stmt, pieces []piece) []piece {
	for _, s := range l {
		at := len(pieces)
		pieces = append(pieces, piece{s: s, yes: at + 1, no: at + 1})
		if s.Kind == api.StmtIf {
			pieces = flat(s.Body, pieces)
			over := len(pieces) // a piece that takes no tick
			pieces = append(pieces, piece{})
			pieces[at].no = over + 1
			pieces = flat(s.Else, pieces)
			pieces[over].yes = len(pieces)
		}
		if s.Kind == api.StmtWhile {
			pieces = append(flat(s.Body, pieces), piece{yes: at})
			pieces[at].no = len(pieces)
		}
	}
	return pieces
}

type reference struct {
	api.Effect
	names map[string]int64
}

// value: an expression's, and whether there is one; how it ended is noted else.
func (r *reference) value(e api.Expr) (int64, bool) {
	var l []int64
	for _, x := range e.Args {
		n, is := r.value(x)
		if !is {
			return 0, false
		}
		l = append(l, n)
	}
	switch e.Kind {
	case api.ExprNum:
		return e.Num, true
	case api.ExprName:
		return r.names[e.Name], true
	case api.ExprOne:
		return num.One(e.Op, l[0])
	case api.ExprMem:
		if at := l[0]; at < 0 || at > int64(len(r.Mem))-1 {
			r.Over, r.Value = api.Outside, at
			return 0, false
		}
		return r.Mem[l[0]], true
	}
	n, is := num.Two(e.Op, l[0], l[1])
	if !is {
		r.Over = api.Divided
	}
	return n, is
}

// does: a piece; where it goes on, and whether it does.
func (r *reference) does(p piece) (int, bool) {
	var l []int64
	for _, e := range p.s.Args {
		n, is := r.value(e)
		if !is {
			return 0, false
		}
		l = append(l, n)
	}
	switch p.s.Kind {
	case api.StmtVar, api.StmtSet:
		r.names[p.s.Name] = l[0]
	case api.StmtStore:
		if l[0] < 0 || l[0] > int64(len(r.Mem))-1 {
			r.Over, r.Value = api.Outside, l[0]
			return 0, false
		}
		r.Mem[l[0]] = l[1]
	case api.StmtEmit:
		r.Outs = append(r.Outs, l[0])
	case api.StmtInto:
		r.Intos = append(r.Intos, api.Into{Cell: p.s.Cell, Value: l[0]})
	case api.StmtIf, api.StmtWhile:
		if l[0] == 0 {
			return p.no, true
		}
	case api.StmtFail:
		r.Over, r.Value = api.Failed, l[0]
		return 0, false
	case api.StmtStop:
		r.Over = api.Halted
		return 0, false
	}
	return p.yes, true
}

func meant(l []api.Stmt, in api.Input, bound int) api.Effect {
	r := &reference{names: map[string]int64{"n": in.N, "i": in.I, "k": in.K}}
	r.Mem = slices.Clone(in.Mem)
	pieces := flat(l, nil)
	for at, on := 0, true; on; {
		if at == len(pieces) {
			r.Over = api.Halted
			break
		}
		p := pieces[at]
		if p.s.Kind == 0 {
			at = p.yes
			continue
		}
		if r.Ticks == bound {
			break
		}
		r.Ticks++
		at, on = r.does(p)
	}
	return r.Effect
}

// maker makes statements at random, with names that are there.
type maker struct {
	*rand.Rand
	there []string
	wild  int // one address in so many is any, one divisor 0
}

func number(n int64) api.Expr { return api.Expr{Kind: api.ExprNum, Num: n} }

func operation(op api.Op, a, b api.Expr) api.Expr {
	return api.Expr{Kind: api.ExprTwo, Op: op, Args: []api.Expr{a, b}}
}

func (m *maker) expr(deep int) api.Expr {
	kind := m.Intn(10)
	if deep == 0 {
		kind = m.Intn(4)
	}
	switch kind {
	case 0:
		return number(int64(m.Intn(4)))
	case 1, 2, 3:
		return api.Expr{Kind: api.ExprName, Name: m.there[m.Intn(len(m.there))]}
	case 4, 5:
		return api.Expr{Kind: api.ExprMem, Args: []api.Expr{m.address(deep - 1)}}
	case 6:
		return api.Expr{Kind: api.ExprOne, Op: api.OpNeg + api.Op(m.Intn(3)), Args: []api.Expr{m.expr(deep - 1)}}
	}
	op := api.OpAdd + api.Op(m.Intn(18))
	if op == api.OpDiv || op == api.OpRem {
		return operation(op, m.expr(deep-1), m.divisor(deep-1))
	}
	return operation(op, m.expr(deep-1), m.expr(deep-1))
}

func (m *maker) divisor(deep int) api.Expr {
	if m.Intn(m.wild) == 0 {
		return number(0)
	}
	return operation(api.OpOr, m.expr(deep), number(1))
}

func (m *maker) address(deep int) api.Expr {
	e := m.expr(deep)
	if m.Intn(m.wild) > 0 {
		e = operation(api.OpAnd, e, number(3))
	}
	return e
}

func (m *maker) block(deep, many int) []api.Stmt {
	was := m.there
	var l []api.Stmt
	for range many {
		l = append(l, m.stmt(deep))
	}
	m.there = was
	return l
}

func (m *maker) stmt(deep int) api.Stmt {
	args := []api.Expr{m.expr(2)}
	kind := m.Intn(16)
	if deep == 0 {
		kind = m.Intn(11)
	}
	switch kind {
	case 0, 1:
		return api.Stmt{Kind: api.StmtStore, Args: []api.Expr{m.address(1), args[0]}}
	case 2, 3:
		return api.Stmt{Kind: api.StmtEmit, Args: args}
	case 4:
		return api.Stmt{Kind: api.StmtInto, Cell: m.Intn(4), Args: args}
	case 5, 6, 7:
		if m.Intn(m.wild*2) == 0 {
			return api.Stmt{Kind: api.StmtStop}
		}
		if m.Intn(m.wild*2) == 0 {
			return api.Stmt{Kind: api.StmtFail, Args: args}
		}
		return api.Stmt{Kind: api.StmtSet, Name: m.there[m.Intn(len(m.there))], Args: args}
	case 11, 12:
		return api.Stmt{Kind: api.StmtWhile, Args: args, Body: m.block(deep-1, m.Intn(5))}
	case 13:
		return api.Stmt{Kind: api.StmtIf, Args: args, Body: m.block(deep-1, m.Intn(5))}
	case 14, 15:
		return api.Stmt{Kind: api.StmtIf, Args: args, Body: m.block(deep-1, m.Intn(4)), Else: m.block(deep-1, m.Intn(4))}
	}
	for name := 'a'; name < 'i' && len(m.there) < 11; name++ {
		if !slices.Contains(m.there, string(name)) && m.Intn(2) == 0 {
			m.there = append(slices.Clip(m.there), string(name))
			return api.Stmt{Kind: api.StmtVar, Name: string(name), Args: args}
		}
	}
	return api.Stmt{Kind: api.StmtSet, Name: m.there[m.Intn(len(m.there))], Args: args}
}

func (m *maker) input() api.Input {
	in := api.Input{Mem: make([]int64, 4+m.Intn(3)), N: m.word(), I: m.word(), K: m.word()}
	for i := range in.Mem {
		in.Mem[i] = m.word()
	}
	return in
}

func (m *maker) word() int64 {
	if m.Intn(6) == 0 {
		return int64(m.Uint64())
	}
	return int64(m.Intn(9) - 4)
}

// P7.1, P7.2: statements at random, with each bound up to where they end, and some beyond
func TestRandom(t *testing.T) {
	seen := map[api.Over]int{}
	for round := range 1500 {
		m := &maker{rand.New(rand.NewSource(int64(round))), []string{"n", "i", "k"}, []int{3, 20, 200}[round%3]}
		l, in := m.block(3, 2+m.Intn(8)), m.input()
		if !tree.Right(l) {
			continue // too many nodes
		}
		const most = 60
		whole, e := ran(t, l, 4, in, most)
		if e != api.OK {
			t.Fatal(round, e)
		}
		seen[whole.Over]++
		for bound := range most + 1 {
			x, e := Run(l, 4, in, bound)
			if want := meant(l, in, bound); e != api.OK || !same(x, want) {
				t.Fatalf("%d with %d: %v %d, not %v", round, bound, x, e, want)
			}
			bounded(t, x, whole, bound)
		}
		beyond(t, l, in, whole)
		withinIf(t, l, in)
		behindStop(t, m, l, in)
	}
	for over := api.Going; over <= api.Failed; over++ {
		if seen[over] < 50 {
			t.Error("too few:", seen)
		}
	}
}

// P7.2: what a lesser bound does is a beginning of what a greater one does; a run that has ended, ends so.
func bounded(t *testing.T, x, greater api.Effect, bound int) {
	t.Helper()
	if x.Over != api.Going && !same(x, greater) {
		t.Fatalf("with %d: %v, with more: %v", bound, x, greater)
	}
	if x.Over == api.Going && (x.Ticks != bound || greater.Ticks < bound || greater.Over != api.Going && greater.Ticks == bound) {
		t.Fatalf("with %d: %v, with more: %v", bound, x, greater)
	}
	if len(x.Outs) > len(greater.Outs) || !slices.Equal(x.Outs, greater.Outs[:len(x.Outs)]) || len(x.Intos) > len(greater.Intos) || !slices.Equal(x.Intos, greater.Intos[:len(x.Intos)]) {
		t.Fatalf("with %d: %v, with more: %v", bound, x, greater)
	}
}

func beyond(t *testing.T, l []api.Stmt, in api.Input, whole api.Effect) {
	t.Helper()
	if whole.Over == api.Going {
		return
	}
	for _, bound := range []int{whole.Ticks, whole.Ticks + 1, 5000, MaxTicks} {
		if x, e := Run(l, 4, in, bound); e != api.OK || !same(x, whole) {
			t.Fatalf("with %d: %v %d, not %v", bound, x, e, whole)
		}
	}
}

// P7.2: all within an if of 1: the same with one tick more.
func withinIf(t *testing.T, l []api.Stmt, in api.Input) {
	t.Helper()
	within := []api.Stmt{{Kind: api.StmtIf, Args: []api.Expr{number(1)}, Body: l}}
	if !tree.Right(within) {
		return
	}
	for _, bound := range []int{0, 1, 2, 5, 30, 60} {
		x, e := Run(l, 4, in, bound)
		x.Ticks++
		if y, no := Run(within, 4, in, bound+1); e != api.OK || no != api.OK || !same(x, y) {
			t.Fatalf("with %d: %v %d, within an if %v %d", bound, x, e, y, no)
		}
	}
}

// P7.2: what stands behind a stop changes nothing.
func behindStop(t *testing.T, m *maker, l []api.Stmt, in api.Input) {
	t.Helper()
	first := append(tree.Copy(l[:m.Intn(len(l)+1)]), api.Stmt{Kind: api.StmtStop})
	m.there = []string{"n", "i", "k"}
	others := [][]api.Stmt{
		{{Kind: api.StmtFail, Args: []api.Expr{number(3)}}},
		{{Kind: api.StmtEmit, Args: []api.Expr{operation(api.OpDiv, number(1), number(0))}}},
		{{Kind: api.StmtWhile, Args: []api.Expr{number(1)}}},
		{{Kind: api.StmtIf, Args: []api.Expr{number(1)}, Body: []api.Stmt{{Kind: api.StmtStore, Args: []api.Expr{number(0), number(8)}}}}},
		{{Kind: api.StmtSet, Name: "i", Args: []api.Expr{number(5)}}, {Kind: api.StmtInto, Args: []api.Expr{number(5)}}},
	}
	for _, bound := range []int{0, 3, 60} {
		x, e := Run(first, 4, in, bound)
		for _, other := range others {
			all := slices.Concat(first, other)
			if !tree.Right(all) {
				continue
			}
			if y, no := Run(all, 4, in, bound); e != api.OK || no != api.OK || !same(x, y) {
				t.Fatalf("with %d: %v %d, with more behind %v %d", bound, x, e, y, no)
			}
		}
	}
}
