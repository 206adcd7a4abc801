package gen

import (
	"math/rand"
	"slices"
	"testing"

	"outrider/api"
	"outrider/eval"
	"outrider/num"
	"outrider/tree"
)

// scope is a second way to find registers: the names that are there, each at its own.
type scope [api.FirstTemp]string

func always() scope { return scope{"n", "i", "k"} }

func (c *scope) declare(name string) {
	c[slices.Index(c[:], "")] = name
}

func (c *scope) of(name string) int {
	return slices.Index(c[:], name)
}

// part is an expression's instructions, where its value is, and what is free then; none is made, if deep.
type part struct {
	code     []api.Ins
	at, free int
	deep     bool
}

func (c *scope) expr(e api.Expr, free int) part {
	switch e.Kind {
	case api.ExprName:
		return part{at: c.of(e.Name), free: free}
	case api.ExprNum:
		return part{[]api.Ins{{Kind: api.InsConst, A: free, K: e.Num}}, free, free + 1, free > 15}
	case api.ExprMem:
		p := c.expr(e.Args[0], free)
		return part{append(p.code, api.Ins{Kind: api.InsLoad, A: free, B: p.at}), free, free + 1, free > 15 || p.deep}
	case api.ExprOne:
		p := c.expr(e.Args[0], free)
		return part{append(p.code, api.Ins{Kind: api.InsOne, Op: e.Op, A: free, B: p.at}), free, free + 1, free > 15 || p.deep}
	}
	a := c.expr(e.Args[0], free)
	b := c.expr(e.Args[1], a.free)
	x := api.Ins{Kind: api.InsTwo, Op: e.Op, A: free, B: a.at, C: b.at}
	return part{append(slices.Concat(a.code, b.code), x), free, free + 1, free > 15 || a.deep || b.deep}
}

// moved: instructions, which go on so much further behind.
func moved(l []api.Ins, by int) []api.Ins {
	l = slices.Clone(l)
	for i, x := range l {
		if x.Kind == api.InsJump || x.Kind == api.InsZero || x.Kind == api.InsOther {
			l[i].K += int64(by)
		}
	}
	return l
}

// stmts: the instructions of a block, as if they stood at 0, and whether one of its expressions is too deep. A scope is a value: what is declared in here isn't there behind.
func (c scope) stmts(l []api.Stmt) ([]api.Ins, bool) {
	var all []api.Ins
	deep := false
	for _, s := range l {
		code, is := c.stmt(s)
		all, deep = append(all, moved(code, len(all))...), deep || is
	}
	return all, deep
}

func (c *scope) stmt(s api.Stmt) ([]api.Ins, bool) {
	if s.Kind == api.StmtStop {
		return []api.Ins{{Kind: api.InsHalt}}, false
	}
	p := c.expr(s.Args[0], 11)
	switch s.Kind {
	case api.StmtVar, api.StmtSet:
		if s.Kind == api.StmtVar {
			c.declare(s.Name)
		}
		if len(p.code) == 0 {
			return []api.Ins{{Kind: api.InsMove, A: c.of(s.Name), B: p.at}}, false
		}
		p.code[len(p.code)-1].A = c.of(s.Name)
		return p.code, p.deep
	case api.StmtStore:
		v := c.expr(s.Args[1], p.free)
		return append(slices.Concat(p.code, v.code), api.Ins{Kind: api.InsStore, A: v.at, B: p.at}), p.deep || v.deep
	case api.StmtEmit:
		return append(p.code, api.Ins{Kind: api.InsEmit, A: p.at}), p.deep
	case api.StmtInto:
		return append(p.code, api.Ins{Kind: api.InsInto, A: p.at, C: s.Cell}), p.deep
	case api.StmtFail:
		return append(p.code, api.Ins{Kind: api.InsFail, A: p.at}), p.deep
	}
	body, is := c.stmts(s.Body)
	other, too := c.stmts(s.Else)
	return c.branches(s, p, body, other), p.deep || is || too
}

// branches: the instructions of an if or a while, of its test's and its blocks'.
func (c *scope) branches(s api.Stmt, p part, body, other []api.Ins) []api.Ins {
	first := len(p.code) + 1 // of the body
	if s.Kind == api.StmtWhile {
		body = append(body, api.Ins{Kind: api.InsJump, K: -int64(first)})
	} else if len(other) > 0 {
		body = append(body, api.Ins{Kind: api.InsJump, K: int64(len(body) + 1 + len(other))})
	}
	zero := api.Ins{Kind: api.InsZero, A: p.at, K: int64(first + len(body))}
	return slices.Concat(append(p.code, zero), moved(body, first), moved(other, first+len(body)))
}

// wanted: what Compile should answer of statements that are right, and whose names are known.
func wanted(l []api.Stmt) ([]api.Ins, api.Errno) {
	code, deep := always().stmts(l)
	code = append(code, api.Ins{Kind: api.InsHalt})
	switch {
	case deep:
		return nil, api.ErrDeep
	case len(code) > 600:
		return nil, api.ErrLen
	}
	return code, api.OK
}

// does: what instructions do, step by step, on a copy of a memory.
func does(code []api.Ins, in api.Input, steps int) api.Effect {
	x := api.Effect{Mem: slices.Clone(in.Mem)}
	regs := [api.Regs]int64{in.N, in.I, in.K}
	for at := 0; x.Over == api.Going && x.Ticks < steps; x.Ticks++ {
		c := code[at]
		at++
		switch c.Kind {
		case api.InsHalt:
			x.Over = api.Halted
		case api.InsConst:
			regs[c.A] = c.K
		case api.InsMove:
			regs[c.A] = regs[c.B]
		case api.InsOne:
			regs[c.A], _ = num.One(c.Op, regs[c.B])
		case api.InsTwo:
			n, is := num.Two(c.Op, regs[c.B], regs[c.C])
			if regs[c.A] = n; !is {
				x.Over = api.Divided
			}
		case api.InsLoad, api.InsStore:
			if word := regs[c.B] + c.K; word < 0 || word >= int64(len(x.Mem)) {
				x.Over, x.Value = api.Outside, word
			} else if c.Kind == api.InsLoad {
				regs[c.A] = x.Mem[word]
			} else {
				x.Mem[word] = regs[c.A]
			}
		case api.InsInto:
			x.Intos = append(x.Intos, api.Into{Cell: c.C, Value: regs[c.A]})
		case api.InsEmit:
			x.Outs = append(x.Outs, regs[c.A])
		case api.InsJump:
			at = int(c.K)
		case api.InsZero:
			if regs[c.A] == 0 {
				at = int(c.K)
			}
		case api.InsFail:
			x.Over, x.Value = api.Failed, regs[c.A]
		}
	}
	return x
}

// chooser makes statements at random, with names that are there.
type chooser struct {
	*rand.Rand
	there []string
	deep  int // of expressions
	wild  int // one address in so many is any, one divisor 0
}

func number(n int64) api.Expr { return api.Expr{Kind: api.ExprNum, Num: n} }

func operation(op api.Op, a, b api.Expr) api.Expr {
	return api.Expr{Kind: api.ExprTwo, Op: op, Args: []api.Expr{a, b}}
}

func (m *chooser) name() string {
	return m.there[m.Intn(len(m.there))]
}

func (m *chooser) expr(deep int) api.Expr {
	kind := m.Intn(13)
	if deep <= 0 {
		kind = m.Intn(4)
	}
	switch kind {
	case 0, 1:
		return number(int64(m.Intn(4)))
	case 2, 3:
		return api.Expr{Kind: api.ExprName, Name: m.name()}
	case 4, 5:
		return api.Expr{Kind: api.ExprMem, Args: []api.Expr{m.address(deep - 1)}}
	case 6:
		return api.Expr{Kind: api.ExprOne, Op: api.OpNeg + api.Op(m.Intn(3)), Args: []api.Expr{m.expr(deep - 1)}}
	}
	op := api.OpAdd + api.Op(m.Intn(18))
	right := m.expr(deep - 1)
	if op == api.OpDiv || op == api.OpRem {
		right = operation(api.OpOr, right, number(1))
		if m.Intn(m.wild) == 0 {
			right = number(0)
		}
	}
	return operation(op, m.expr(deep-1), right)
}

func (m *chooser) address(deep int) api.Expr {
	e := m.expr(deep)
	if m.Intn(m.wild) > 0 {
		e = operation(api.OpAnd, e, number(3))
	}
	return e
}

func (m *chooser) block(within, many int) []api.Stmt {
	was := m.there
	var l []api.Stmt
	for range many {
		l = append(l, m.stmt(within))
	}
	m.there = was
	return l
}

func (m *chooser) stmt(within int) api.Stmt {
	args := []api.Expr{m.expr(m.Intn(m.deep + 1))}
	kind := m.Intn(16)
	if within == 0 {
		kind = m.Intn(11)
	}
	switch kind {
	case 0, 1:
		return api.Stmt{Kind: api.StmtStore, Args: []api.Expr{m.address(m.Intn(m.deep)), args[0]}}
	case 2, 3:
		return api.Stmt{Kind: api.StmtEmit, Args: args}
	case 4:
		return api.Stmt{Kind: api.StmtInto, Cell: m.Intn(4), Args: args}
	case 5, 6, 7:
		if m.Intn(m.wild*2) == 0 {
			return api.Stmt{Kind: api.StmtStop}
		}
		if m.Intn(m.wild*2) == 0 {
			return api.Stmt{Kind: api.StmtFail, Args: args}
		}
	case 8, 9, 10:
		return m.declared(args)
	case 11, 12:
		return api.Stmt{Kind: api.StmtWhile, Args: args, Body: m.block(within-1, m.Intn(5))}
	case 13:
		return api.Stmt{Kind: api.StmtIf, Args: args, Body: m.block(within-1, m.Intn(5))}
	case 14, 15:
		return api.Stmt{Kind: api.StmtIf, Args: args, Body: m.block(within-1, m.Intn(4)), Else: m.block(within-1, m.Intn(4))}
	}
	return api.Stmt{Kind: api.StmtSet, Name: m.name(), Args: args}
}

// declared: one of eight names, if not all of them are there.
func (m *chooser) declared(args []api.Expr) api.Stmt {
	for name := 'a'; name < 'i'; name++ {
		if !slices.Contains(m.there, string(name)) && (m.Intn(2) == 0 || name == 'h') {
			m.there = append(slices.Clip(m.there), string(name))
			return api.Stmt{Kind: api.StmtVar, Name: string(name), Args: args}
		}
	}
	return api.Stmt{Kind: api.StmtSet, Name: m.name(), Args: args}
}

func (m *chooser) word() int64 {
	if m.Intn(6) == 0 {
		return int64(m.Uint64())
	}
	return int64(m.Intn(9) - 4)
}

func (m *chooser) input() api.Input {
	in := api.Input{Mem: make([]int64, 4+m.Intn(3)), N: m.word(), I: m.word(), K: m.word()}
	for i := range in.Mem {
		in.Mem[i] = m.word()
	}
	return in
}

func choosing(round int) *chooser {
	return &chooser{rand.New(rand.NewSource(int64(round))), []string{"n", "i", "k"}, 1 + round%7, []int{3, 20, 200}[round%3]}
}

// P10.1, P10.2: statements at random, held against a second way of making their instructions, and against what they mean
func TestRandom(t *testing.T) {
	errors, ends := map[api.Errno]int{}, map[api.Over]int{}
	for round := range 4000 {
		m := choosing(round)
		l := m.block(3, 1+m.Intn(10+round%40))
		if !tree.Right(l) {
			continue // too many nodes
		}
		code, e := compiled(t, l, 4)
		if want, no := wanted(l); e != no || !slices.Equal(code, want) {
			t.Fatalf("%d: %v %d, not %v %d", round, code, e, want, no)
		}
		if errors[e]++; e == api.OK {
			ends[means(t, l, code, m.input())]++
		}
	}
	for _, e := range []api.Errno{api.OK, api.ErrDeep} {
		if errors[e] < 100 {
			t.Error("too few:", errors)
		}
	}
	for over := api.Going; over <= api.Failed; over++ {
		if ends[over] < 50 {
			t.Error("too few:", ends)
		}
	}
}

// means: do the instructions do what the statements mean? How they end.
func means(t *testing.T, l []api.Stmt, code []api.Ins, in api.Input) api.Over {
	t.Helper()
	const ticks = 100
	want, e := eval.Run(l, 4, in, ticks)
	x := does(code, in, ticks*len(code))
	if e != api.OK {
		t.Fatal(e)
	}
	if want.Over == api.Going {
		// the instructions go further
		x.Outs, x.Intos = x.Outs[:len(want.Outs)], x.Intos[:len(want.Intos)]
		x.Mem, x.Over, x.Value = want.Mem, want.Over, want.Value
	}
	if !slices.Equal(x.Mem, want.Mem) || !slices.Equal(x.Outs, want.Outs) || !slices.Equal(x.Intos, want.Intos) || x.Over != want.Over || x.Value != want.Value {
		t.Fatalf("%v: %v, not %v", code, x, want)
	}
	return want.Over
}

// declares: does one of the statements declare a name otherwise than within a block?
func declares(l []api.Stmt) bool {
	return slices.ContainsFunc(l, func(s api.Stmt) bool { return s.Kind == api.StmtVar })
}

// P10.2: of two texts, the first of which declares names only within blocks
func TestTogether(t *testing.T) {
	put := 0
	for round := range 3000 {
		m := choosing(round)
		m.deep = 1 + round%3
		first := slices.DeleteFunc(m.block(3, 1+m.Intn(8)), func(s api.Stmt) bool { return s.Kind == api.StmtVar })
		m.there = []string{"n", "i", "k"}
		other := m.block(3, m.Intn(8))
		a, e := Compile(first, 4)
		b, no := Compile(other, 4)
		both, neither := compiled(t, slices.Concat(first, other), 4)
		if e != api.OK || no != api.OK || neither != api.OK {
			continue // names of the first one that aren't there any more, or too much
		}
		a = a[:len(a)-1]
		if want := append(a, moved(b, len(a))...); declares(first) || !slices.Equal(both, want) {
			t.Fatalf("%d: %v, not %v", round, both, want)
		}
		put++
	}
	if put < 500 {
		t.Error("too few:", put)
	}
	makes(t, "if (i) { var x = 1; emit x; } while (k) { var y = 2; }"+"var z = i; while (z) { emit z; }",
		"zero r1 l3; const r3 1; emit r3; l3:; zero r2 l6; const r3 2; jump l3; l6:; move r3 r1; l7:; zero r3 l10; emit r3; jump l7; l10:")
}
