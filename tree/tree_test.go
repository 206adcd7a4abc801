package tree

import (
	"math"
	"math/rand"
	"strconv"
	"testing"

	"outrider/api"
)

// eachKind: a row with one right statement of each kind, and each kind of expression within.
func eachKind() []api.Stmt {
	x := named("x")
	deep := two(api.OpAdd, memory(one(api.OpCom, number(5))), two(api.OpMax, x, number(math.MaxInt64)))
	return row(
		api.Stmt{Kind: api.StmtVar, Name: "x", Args: []api.Expr{deep}},
		api.Stmt{Kind: api.StmtSet, Name: "abcdefghijkl", Args: []api.Expr{number(0)}},
		stmt(api.StmtStore, x, one(api.OpNot, x)),
		stmt(api.StmtEmit, number(1)),
		api.Stmt{Kind: api.StmtInto, Cell: 255, Args: []api.Expr{one(api.OpNeg, x)}},
		api.Stmt{Kind: api.StmtIf, Args: []api.Expr{x}, Body: row(stmt(api.StmtStop)), Else: row(stmt(api.StmtStop), stmt(api.StmtEmit, x))},
		api.Stmt{Kind: api.StmtWhile, Args: []api.Expr{x}, Body: row(stmt(api.StmtIf, x))},
		stmt(api.StmtFail, x),
		stmt(api.StmtStop),
	)
}

// P4.3
func TestRight(t *testing.T) {
	if !Right(nil) || !Right(row()) || !Right(eachKind()) {
		t.Error("right ones")
	}
	for i := range eachKind() {
		if !Right(eachKind()[i : i+1]) {
			t.Error("statement", i)
		}
	}
	empty := stmt(api.StmtStop)
	empty.Args, empty.Body, empty.Else = []api.Expr{}, row(), row()
	if !Right(row(empty)) {
		t.Error("empty lists are none")
	}
}

// P4.3: statements that have too much, too little, or what they can't have
func TestWrongStatements(t *testing.T) {
	x := named("x")
	list := row(stmt(api.StmtStop))
	wrongs := map[string]func(s *api.Stmt){
		"kind 0":     func(s *api.Stmt) { s.Kind = 0 },
		"kind 10":    func(s *api.Stmt) { s.Kind = 10 },
		"kind -1":    func(s *api.Stmt) { s.Kind = -1 },
		"kind large": func(s *api.Stmt) { s.Kind = math.MaxInt },
		"kind small": func(s *api.Stmt) { s.Kind = math.MinInt },
		"an arg":     func(s *api.Stmt) { s.Args = append(s.Args, x) },
		"cell -1":    func(s *api.Stmt) { s.Cell = -1 },
		"cell 256":   func(s *api.Stmt) { s.Cell = 256 },
		"cell large": func(s *api.Stmt) { s.Cell = math.MaxInt },
		"cell small": func(s *api.Stmt) { s.Cell = math.MinInt },
		"word":       func(s *api.Stmt) { s.Name = "min" },
		"long name":  func(s *api.Stmt) { s.Name = "abcdefghijklm" },
		"number":     func(s *api.Stmt) { s.Name = "1" },
		"wrong arg":  func(s *api.Stmt) { s.Args = append([]api.Expr{{}}, s.Args[min(1, len(s.Args)):]...) },
		"wrong body": func(s *api.Stmt) { s.Body = row(api.Stmt{}) },
		"wrong else": func(s *api.Stmt) { s.Else = row(api.Stmt{}) },
		"no args": func(s *api.Stmt) {
			s.Args = nil
			if s.Kind == api.StmtStop {
				s.Kind = 0
			}
		},
	}
	for what, wrong := range wrongs {
		for i := range eachKind() {
			l := eachKind()
			wrong(&l[i])
			if Right(l) || Right(l[i:i+1]) || Right(row(api.Stmt{Kind: api.StmtWhile, Args: []api.Expr{x}, Body: l})) || Right(row(api.Stmt{Kind: api.StmtIf, Args: []api.Expr{x}, Else: l})) {
				t.Errorf("%s of kind %d", what, i+1)
			}
		}
	}
	for i, s := range eachKind() {
		kind := api.StmtKind(i + 1)
		hasName := kind == api.StmtVar || kind == api.StmtSet
		hasBody := kind == api.StmtIf || kind == api.StmtWhile
		named, celled, bodied, elsed := s, s, s, s
		named.Name, celled.Cell, bodied.Body, elsed.Else = "y", 1, list, list
		if Right(row(named)) != hasName || Right(row(celled)) != (kind == api.StmtInto) || Right(row(bodied)) != hasBody || Right(row(elsed)) != (kind == api.StmtIf) {
			t.Error("kind", kind)
		}
		named.Name = ""
		if Right(row(named)) == hasName {
			t.Error("no name of kind", kind)
		}
	}
	l := eachKind()
	l[2].Args = l[2].Args[:1]
	if Right(l) {
		t.Error("a store without value")
	}
}

// P4.3: expressions that have too much, too little, or what they can't have
func TestWrongExpressions(t *testing.T) {
	x := named("x")
	right := []api.Expr{number(0), x, memory(x), one(api.OpNeg, x), two(api.OpAdd, x, x)}
	judge := func(e api.Expr) bool {
		alone := Right(row(stmt(api.StmtEmit, e)))
		if Right(row(stmt(api.StmtStore, x, two(api.OpSub, x, one(api.OpNot, memory(e)))))) != alone {
			t.Errorf("%v within another", e)
		}
		return alone
	}
	for i, r := range right {
		kind := api.ExprKind(i + 1)
		if !judge(r) {
			t.Error("kind", kind)
		}
		for op := api.Op(-2); op < 30; op++ {
			e := r
			e.Op = op
			want := op == 0
			if kind == api.ExprOne {
				want = op == api.OpNeg || op == api.OpCom || op == api.OpNot
			} else if kind == api.ExprTwo {
				want = op >= 1 && op <= 18
			}
			if judge(e) != want {
				t.Errorf("kind %d, operation %d", kind, op)
			}
		}
		e := r
		e.Num = 1
		if judge(e) != (kind == api.ExprNum) {
			t.Error("a number of kind", kind)
		}
		for _, n := range []int64{-1, math.MinInt64} {
			if e.Num = n; judge(e) {
				t.Error("below 0 of kind", kind)
			}
		}
		e = r
		e.Name = "y"
		if judge(e) != (kind == api.ExprName) {
			t.Error("a name of kind", kind)
		}
		for _, name := range []string{"if", "m", "a b", "0", "abcdefghijklm", " "} {
			if e.Name = name; judge(e) {
				t.Error("no name of kind", kind)
			}
		}
		for many := range 4 {
			e = r
			e.Args = nil
			for range many {
				e.Args = append(e.Args, x)
			}
			if judge(e) != (many == len(r.Args)) {
				t.Errorf("%d args of kind %d", many, kind)
			}
		}
		for at := range r.Args {
			e = r
			e.Args = append([]api.Expr(nil), r.Args...)
			e.Args[at] = api.Expr{}
			if judge(e) {
				t.Error("a wrong arg of kind", kind)
			}
		}
		for _, odd := range []api.ExprKind{0, -1, 6, math.MaxInt, math.MinInt} {
			e = r
			e.Kind = odd
			if judge(e) {
				t.Error("kind", odd)
			}
		}
	}
	if e := named(""); judge(e) {
		t.Error("a name without bytes")
	}
}

func deepExpr(deep int) api.Expr {
	e := number(1)
	for i := 1; i < deep; i++ {
		switch i % 3 {
		case 0:
			e = one(api.OpNeg, e)
		case 1:
			e = memory(e)
		default:
			e = two(api.OpAdd, number(1), e)
		}
	}
	return e
}

func many(n int) []api.Stmt {
	var l []api.Stmt
	for range n {
		l = append(l, stmt(api.StmtStop))
	}
	return l
}

// P4.3: depth and number at their limits and one past them
func TestRightLimits(t *testing.T) {
	if !Right(row(stmt(api.StmtEmit, deepExpr(48)))) || Right(row(stmt(api.StmtEmit, deepExpr(49)))) {
		t.Error("depth")
	}
	if !Right(row(stmt(api.StmtStore, number(1), deepExpr(48)))) || Right(row(stmt(api.StmtStore, number(1), deepExpr(49)))) {
		t.Error("depth of a second arg")
	}
	if Right(row(stmt(api.StmtEmit, deepExpr(60000)))) {
		t.Error("very deep")
	}
	if !Right(many(600)) || Right(many(601)) || Right(many(100000)) {
		t.Error("statements")
	}
	within := func(n int) []api.Stmt {
		return row(api.Stmt{Kind: api.StmtIf, Args: []api.Expr{memory(number(1))}, Body: many(n), Else: many(299)})
	}
	if !Right(within(298)) || Right(within(299)) {
		t.Error("nodes within")
	}
	shared := number(1)
	for range 40 {
		shared = two(api.OpAdd, shared, shared)
	}
	if Right(row(stmt(api.StmtEmit, shared))) {
		t.Error("more nodes than could be gone through")
	}
}

// P4.3: blocks within blocks
func TestRightBlocks(t *testing.T) {
	x := []api.Expr{number(1)}
	whiles := func(n int, within []api.Stmt) []api.Stmt {
		for range n {
			within = row(api.Stmt{Kind: api.StmtWhile, Args: x, Body: within})
		}
		return within
	}
	bodies := func(n int, within []api.Stmt) []api.Stmt {
		for range n {
			within = row(api.Stmt{Kind: api.StmtIf, Args: x, Body: within})
		}
		return within
	}
	elses := func(n int, within []api.Stmt) []api.Stmt {
		for range n {
			within = row(api.Stmt{Kind: api.StmtIf, Args: x, Else: within})
		}
		return within
	}
	stop := many(1)
	for what, nest := range map[string]func(int, []api.Stmt) []api.Stmt{"while": whiles, "if": bodies} {
		if !Right(nest(12, nil)) || !Right(nest(12, stop)) || Right(nest(13, nil)) || Right(nest(13, stop)) || Right(nest(1000, nil)) {
			t.Error(what)
		}
		if !Right(nest(11, elses(1, stop))) || Right(nest(12, elses(1, nil))) || Right(nest(12, elses(1, stop))) {
			t.Error(what, "with an else within")
		}
	}
	// The innermost of so many ifs has an empty Else, which is no block; its empty Body is one.
	if !Right(elses(12, nil)) || !Right(elses(12, stop)) || Right(elses(13, nil)) || Right(elses(13, stop)) {
		t.Error("else")
	}
	if !Right(row(append(whiles(12, nil), whiles(12, nil)...)...)) {
		t.Error("one behind the other")
	}
	if !Right(whiles(6, elses(6, stop))) || Right(whiles(6, elses(7, stop))) || !Right(elses(6, bodies(6, stop))) || Right(elses(7, bodies(6, stop))) {
		t.Error("both")
	}
}

// P4.3
func TestNodes(t *testing.T) {
	for _, c := range []struct {
		l    []api.Stmt
		want int
	}{
		{nil, 0}, {row(), 0}, {many(1), 1}, {many(1000), 1000},
		{eachKind(), 32},
		{parses(t, "x = -m[i] << 1; if (i) { stop; } else if (k) { }"), 11},
		{row(api.Stmt{Kind: 77, Args: []api.Expr{{Args: []api.Expr{{}, {}}}}, Body: many(2), Else: many(3)}), 9},
		{row(stmt(api.StmtEmit, deepExpr(3))), 5},
		{row(stmt(api.StmtStop, deepExpr(1), deepExpr(1), deepExpr(1))), 4},
	} {
		if got := Nodes(c.l); got != c.want {
			t.Errorf("%s: %d, not %d", told(c.l), got, c.want)
		}
	}
}

// changes: each way in which a row of statements can be made another.
func changes() []func(l []api.Stmt) []api.Stmt {
	return []func(l []api.Stmt) []api.Stmt{
		func(l []api.Stmt) []api.Stmt { return l[:len(l)-1] },
		func(l []api.Stmt) []api.Stmt { return append(l, stmt(api.StmtStop)) },
		func(l []api.Stmt) []api.Stmt { l[0], l[1] = l[1], l[0]; return l },
		func(l []api.Stmt) []api.Stmt { l[8].Kind = 0; return l },
		func(l []api.Stmt) []api.Stmt { l[8].Name = "x"; return l },
		func(l []api.Stmt) []api.Stmt { l[0].Name = "X"; return l },
		func(l []api.Stmt) []api.Stmt { l[8].Cell = -1; return l },
		func(l []api.Stmt) []api.Stmt { l[8].Args = []api.Expr{{}}; return l },
		func(l []api.Stmt) []api.Stmt { l[8].Body = row(api.Stmt{}); return l },
		func(l []api.Stmt) []api.Stmt { l[8].Else = row(api.Stmt{}); return l },
		func(l []api.Stmt) []api.Stmt { l[5].Body[0].Cell = 1; return l },
		func(l []api.Stmt) []api.Stmt { l[5].Body = nil; return l },
		func(l []api.Stmt) []api.Stmt { l[5].Else[1].Args[0].Name = "y"; return l },
		func(l []api.Stmt) []api.Stmt { l[5].Else = l[5].Else[:1]; return l },
		func(l []api.Stmt) []api.Stmt { l[5].Body, l[5].Else = l[5].Else, l[5].Body; return l },
		func(l []api.Stmt) []api.Stmt { l[2].Args = l[2].Args[:1]; return l },
		func(l []api.Stmt) []api.Stmt { l[2].Args[1].Kind = 0; return l },
		func(l []api.Stmt) []api.Stmt { l[2].Args[1].Num = -5; return l },
		func(l []api.Stmt) []api.Stmt { l[2].Args[1].Name = "x"; return l },
		func(l []api.Stmt) []api.Stmt { l[2].Args[1].Op = 0; return l },
		func(l []api.Stmt) []api.Stmt { l[2].Args[1].Args = nil; return l },
		func(l []api.Stmt) []api.Stmt { l[0].Args[0].Args[0].Args[0].Args[0].Num++; return l },
		func(l []api.Stmt) []api.Stmt {
			l[0].Args[0].Args[1].Args = append(l[0].Args[0].Args[1].Args, api.Expr{})
			return l
		},
	}
}

// P4.4
func TestSame(t *testing.T) {
	if !Same(nil, nil) || !Same(nil, row()) || !Same(eachKind(), eachKind()) || Same(nil, many(1)) || Same(many(1), nil) || !Same(many(1000), many(1000)) || Same(many(1000), many(999)) {
		t.Error("rows")
	}
	a := stmt(api.StmtStop)
	a.Args, a.Body, a.Else = []api.Expr{}, row(), row()
	if !Same(row(a), many(1)) || !Same(many(1), row(a)) {
		t.Error("empty lists are nil")
	}
	for i, change := range changes() {
		if other := change(eachKind()); Same(eachKind(), other) || Same(other, eachKind()) || !Same(other, change(eachKind())) {
			t.Error("change", i)
		}
	}
}

// P4.4, rule 5
func TestCopy(t *testing.T) {
	if len(Copy(nil)) != 0 || len(Copy(row())) != 0 {
		t.Error("nothing")
	}
	for i, change := range changes() {
		l := change(eachKind())
		if c := Copy(l); told(c) != told(l) || !Same(c, l) {
			t.Error("change", i)
		}
		l = eachKind()
		c := Copy(l)
		change(c)
		if told(l) != told(eachKind()) {
			t.Error("a copy that is changed changes what was copied:", i)
		}
		c = Copy(l)
		change(l)
		if told(c) != told(eachKind()) {
			t.Error("what was copied changes its copy:", i)
		}
	}
	twice := []api.Expr{number(1)}
	body := many(1)
	l := Copy(row(api.Stmt{Args: twice, Body: body, Else: body}, api.Stmt{Args: twice}))
	l[0].Args[0].Num, l[0].Body[0].Cell = 2, 3
	if l[1].Args[0].Num != 1 || l[0].Else[0].Cell != 0 {
		t.Error("two lists of a copy share memory")
	}
	behind := append(many(2), api.Stmt{Name: "behind"})[:2]
	if c := Copy(behind); cap(c) > 2 && c[:3][2].Name != "" {
		t.Error("what lies behind a list is handed out")
	}
}

// maker makes right trees at random, and writes them with brackets around all.
type maker struct {
	*rand.Rand
}

func (m maker) expr(deep int) (api.Expr, string) {
	kind := m.Intn(5)
	if deep == 0 {
		kind = m.Intn(2)
	}
	switch kind {
	case 0:
		n := m.Int63() >> m.Intn(63)
		return number(n), strconv.FormatInt(n, 10)
	case 1:
		name := []string{"x", "i", "abcdefghijkl", "_1"}[m.Intn(4)]
		return named(name), name
	case 2:
		e, s := m.expr(deep - 1)
		return memory(e), "m[" + s + "]"
	case 3:
		e, s := m.expr(deep - 1)
		which := m.Intn(3)
		return one(api.OpNeg+api.Op(which), e), "(" + string("-~!"[which]) + s + ")"
	}
	a, s := m.expr(deep - 1)
	b, r := m.expr(deep - 1)
	op := api.OpAdd + api.Op(m.Intn(18))
	sign := []string{"", "+", "-", "*", "/", "%", "&", "|", "^", "<<", ">>", "==", "!=", "<", "<=", ">", ">=", "min", "max"}[op]
	if op >= api.OpMin {
		return two(op, a, b), sign + "(" + s + "," + r + ")"
	}
	return two(op, a, b), "(" + s + sign + r + ")"
}

func (m maker) stmts(deep int) ([]api.Stmt, string) {
	var l []api.Stmt
	text := ""
	for range m.Intn(4) {
		s, t := m.stmt(deep)
		l = append(l, s)
		text += t
	}
	return l, text
}

func (m maker) stmt(deep int) (api.Stmt, string) {
	e, s := m.expr(3)
	kind := api.StmtKind(1 + m.Intn(9))
	if deep == 0 && (kind == api.StmtIf || kind == api.StmtWhile) {
		kind = api.StmtStop
	}
	made := stmt(kind, e)
	switch kind {
	case api.StmtVar, api.StmtSet:
		made.Name = "y"
		return made, []string{"", "var y = ", "y = "}[kind] + s + ";"
	case api.StmtStore:
		at, r := m.expr(2)
		return stmt(kind, at, e), "m[" + r + "]=" + s + ";"
	case api.StmtEmit:
		return made, "emit " + s + ";"
	case api.StmtInto:
		made.Cell = m.Intn(256)
		return made, "into " + strconv.Itoa(made.Cell) + " " + s + ";"
	case api.StmtIf:
		return m.choice(made, s, deep)
	case api.StmtWhile:
		body, b := m.stmts(deep - 1)
		made.Body = body
		return made, "while(" + s + "){" + b + "}"
	case api.StmtFail:
		return made, "fail " + s + ";"
	}
	return stmt(api.StmtStop), "stop;"
}

func (m maker) choice(made api.Stmt, test string, deep int) (api.Stmt, string) {
	body, b := m.stmts(deep - 1)
	other, o := m.stmts(deep - 1)
	made.Body, made.Else = body, other
	text := "if(" + test + "){" + b + "}"
	if len(other) == 1 && other[0].Kind == api.StmtIf {
		return made, text + "else " + o
	}
	return made, text + "else{" + o + "}"
}

// P4.1, P4.3, P4.4, P4.5: a tree at random is right, and read from its text
func TestRandomTrees(t *testing.T) {
	m := maker{rand.New(rand.NewSource(7))}
	read := 0
	for range 3000 {
		want, text := m.stmts(3)
		if len(text) > api.MaxText {
			continue
		}
		if many := Nodes(want); many > api.MaxNodes {
			if _, _, e := Parse(text); e != api.ErrMany || Right(want) {
				t.Fatal(many, e)
			}
			continue
		}
		read++
		got := parses(t, text)
		if told(got) != told(want) || !Same(got, want) || !Right(got) || !Right(want) || !Same(Copy(got), want) {
			t.Fatalf("%s: %s", text, told(got))
		}
	}
	if read < 1000 {
		t.Error("too few trees:", read)
	}
}
