package name

import (
	"math"
	"math/rand"
	"slices"
	"strconv"
	"strings"
	"testing"

	"outrider/api"
	"outrider/tree"
)

func parsed(t *testing.T, s string) []api.Stmt {
	t.Helper()
	l, at, e := tree.Parse(s)
	if e != api.OK {
		t.Fatalf("%q: %d %d", s, at, e)
	}
	return l
}

// answers: what both calls answer of a text; each of them leaves its statements as they were.
func answers(t *testing.T, s string, cells int) ([]int, int, api.Errno) {
	t.Helper()
	l := parsed(t, s)
	was := tree.Copy(l)
	slots, e := Slots(l, cells)
	most, other := Most(l, cells)
	if e != other {
		t.Fatalf("%q: Slots answers %d, Most %d", s, e, other)
	}
	if e != api.OK && (len(slots) != 0 || most != 0) {
		t.Fatalf("%q: %v and %d beside the error %d", s, slots, most, e)
	}
	if !tree.Same(l, was) {
		t.Fatalf("%q: what was handed in is changed", s)
	}
	return slots, most, e
}

func has(t *testing.T, s string, most int, want ...int) {
	t.Helper()
	if slots, m, e := answers(t, s, 2); e != api.OK || m != most || !slices.Equal(slots, want) {
		t.Errorf("%q: %v %d %d, not %v %d", s, slots, m, e, want, most)
	}
}

func fails(t *testing.T, s string, want api.Errno) {
	t.Helper()
	if _, _, e := answers(t, s, 2); e != want {
		t.Errorf("%q: %d, not %d", s, e, want)
	}
}

// P6.1, P6.2: the examples, and each kind of statement and expression
func TestSlots(t *testing.T) {
	has(t, "var x = i; x = x + k;", 1, 1, 3, 3, 2, 3)
	has(t, "if (i) { var x = 1; } var y = 2;", 1, 1, 3, 3)
	has(t, "", 0)
	has(t, "stop; emit 1; fail 2; into 0 3; m[4] = 5; if (6) { } while (7) { }", 0)
	has(t, "emit n; emit i; emit k;", 0, 0, 1, 2)
	has(t, "n = 1; i = 2; k = 3;", 0, 0, 1, 2)
	has(t, "i = i; k = n; n = i;", 0, 1, 1, 0, 2, 1, 0)
	has(t, "emit -n + ~i * !k;", 0, 0, 1, 2)
	has(t, "emit m[k] | m[m[i]];", 0, 2, 1)
	has(t, "emit min(k, max(i, n));", 0, 2, 1, 0)
	has(t, "emit k - (i - n);", 0, 2, 1, 0)
	has(t, "fail i; into 1 k;", 0, 1, 2)
	has(t, "m[i] = k;", 0, 1, 2)
	has(t, "m[k + i] = n * m[k];", 0, 2, 1, 0, 2)
	has(t, "while (k) { emit i; }", 0, 2, 1)
	has(t, "if (k) { emit i; } else { emit n; }", 0, 2, 1, 0)
	has(t, "if (k) { } else { emit n; }", 0, 2, 0)
	has(t, "if (k) { emit 1; } else if (i) { emit n; } else { emit k; }", 0, 2, 1, 0, 2)
	has(t, "var x = 1;", 1, 3)
	has(t, "var x = i; var y = x + k; var z = y;", 3, 1, 3, 3, 2, 4, 4, 5)
	has(t, "var x = 1; x = i + x + k;", 1, 3, 1, 3, 2, 3)
	has(t, "var x = 1; m[x] = i; m[i] = x;", 1, 3, 3, 1, 1, 3)
	has(t, "var x = 1; into 0 x; fail -x; emit m[x];", 1, 3, 3, 3, 3)
	has(t, "var abcdefghijkl = 1; var abcdefghijk = abcdefghijkl; var Abcdefghijkl = 2;", 3, 3, 3, 4, 5)
}

// P6.1, P6.2: a name goes when its block ends, and its register is free again
func TestBlocks(t *testing.T) {
	has(t, "if (i) { var x = 1; emit x; } else { var y = 2; emit y; } var z = 3; emit z;", 1, 1, 3, 3, 3, 3, 3, 3)
	has(t, "if (i) { var x = 1; } else { var x = 2; } var x = 3;", 1, 1, 3, 3, 3)
	has(t, "while (i) { var x = 1; } while (i) { var x = 2; }", 1, 1, 3, 1, 3)
	has(t, "var a = 1; if (a) { var b = 2; var c = 3; emit b + c; } var d = 4; emit a + d;", 3, 3, 3, 4, 5, 4, 5, 4, 3, 4)
	has(t, "var a = 1; while (a) { var b = a; while (b) { var c = b; a = c; } var d = b; d = a; } var e = a;", 3, 3, 3, 3, 4, 4, 4, 5, 5, 3, 4, 5, 3, 5, 3, 4)
	has(t, "if (1) { } else if (2) { var x = 1; emit x; } else { var x = 2; emit x; }", 1, 3, 3, 3, 3)
	has(t, "if (1) { var y = 1; } else { var x = 1; if (x) { var y = 2; emit y; } }", 2, 3, 3, 3, 4, 4)
	has(t, "var x = 1; if (1) { x = 2; } else { x = 3; } while (x) { x = 0; }", 1, 3, 3, 3, 3, 3)
	for _, s := range []string{
		"if (1) { var x = 1; } emit x;", "while (1) { var x = 1; } emit x;", "if (1) { } else { var x = 1; } emit x;", "if (1) { var x = 1; } else { emit x; }", "if (1) { var x = 1; } x = 1;",
		"if (1) { var x = 1; } else if (x) { }", "if (1) { } else if (1) { var x = 1; } else { x = 1; }", "while (1) { if (1) { var x = 1; } emit x; }", "while (x) { var x = 1; }", "if (x) { var x = 1; }",
		"if (1) { var x = 1; } var y = x;", "if (1) { if (1) { var x = 1; } } emit x;", "if (1) { var x = 1; } while (1) { m[x] = 1; }",
	} {
		fails(t, s, api.ErrUnknown)
	}
	for _, s := range []string{
		"var x = 1; var x = 2;", "var x = 1; if (1) { var x = 2; }", "var x = 1; while (1) { while (1) { var x = 2; } }", "var x = 1; if (1) { } else { var x = 2; }", "if (1) { var x = 1; var x = 2; }",
		"if (1) { var x = 1; if (1) { var x = 2; } }", "if (1) { var y = 1; } var x = 1; if (1) { var y = 2; var x = 3; }",
	} {
		fails(t, s, api.ErrTwice)
	}
}

// P6.2: the most of all times, not those of the end
func TestMost(t *testing.T) {
	for _, c := range []struct {
		s    string
		want int
	}{
		{"var a = 1; if (a) { var b = 2; } var c = 3;", 2},
		{"if (1) { var a = 1; var b = 2; var c = 3; } var d = 4;", 3},
		{"var d = 4; if (1) { var a = 1; var b = 2; var c = 3; } else { var a = 1; }", 4},
		{"if (1) { var a = 1; } else { var a = 1; var b = 2; }", 2},
		{"while (1) { var a = 1; while (1) { var b = 1; while (1) { var c = 1; } } } var d = 1; var e = 1;", 3},
		{"i = 1; emit k;", 0},
		{declares("", 8), 8},
	} {
		if _, most, e := answers(t, c.s, 0); most != c.want || e != api.OK {
			t.Errorf("%q: %d %d", c.s, most, e)
		}
	}
}

// P6.1: names that aren't there, or are already
func TestUnknownTwice(t *testing.T) {
	for _, s := range []string{
		"var x = x;", "var x = 1 + x;", "x = 1;", "emit x;", "emit N;", "emit I;", "emit ii;", "m[x] = 1;", "m[1] = x;", "fail x;", "into 0 x;", "if (x) { }", "while (x) { }", "emit -x;", "emit m[x];", "emit min(1, x);", "emit 1 + 2 * x;",
		"emit y; var y = 1;", "var x = 1; y = x;", "x = x;", "if (1) { emit x; }", "if (1) { } else { emit x; }", "while (1) { x = 1; }", "_ = 1;",
	} {
		fails(t, s, api.ErrUnknown)
	}
	for _, s := range []string{"var i = 1;", "var k = 1;", "var n = 1;", "if (1) { var i = 1; }", "while (1) { var k = i; }", "if (1) { } else { var n = 1; }"} {
		fails(t, s, api.ErrTwice)
	}
}

func declares(prefix string, many int) string {
	s := ""
	for at := range many {
		s += "var " + prefix + "v" + strconv.Itoa(at) + " = " + strconv.Itoa(at) + ";\n"
	}
	return s
}

// P6.1: the 8th and the 9th declared name
func TestVars(t *testing.T) {
	eight := declares("", 8)
	has(t, eight, 8, 3, 4, 5, 6, 7, 8, 9, 10)
	has(t, eight+"emit v7 + v0 + i; v3 = v6;", 8, 3, 4, 5, 6, 7, 8, 9, 10, 10, 3, 1, 9, 6)
	fails(t, eight+"var x = 1;", api.ErrVars)
	fails(t, eight+"if (1) { var x = 1; }", api.ErrVars)
	fails(t, eight+"while (1) { if (1) { } else { var x = 1; } }", api.ErrVars)
	fails(t, declares("", 4)+"if (1) {"+declares("w", 4)+"var x = 1; }", api.ErrVars)
	has(t, declares("", 4)+"if (1) {"+declares("w", 4)+"} var x = v0;", 8, 3, 4, 5, 6, 7, 8, 9, 10, 3, 7)
	has(t, "if (1) {"+eight+"}"+declares("w", 8), 8, 3, 4, 5, 6, 7, 8, 9, 10, 3, 4, 5, 6, 7, 8, 9, 10)
	has(t, strings.Repeat("if (1) {"+eight+"}", 3)+"if (1) { } else {"+eight+"}", 8, slices.Repeat([]int{3, 4, 5, 6, 7, 8, 9, 10}, 4)...)
	fails(t, "if (1) {"+eight+"}"+declares("w", 9), api.ErrVars)

	// ErrTwice ahead of ErrVars, also of the names that are always there
	fails(t, eight+"var v7 = 1;", api.ErrTwice)
	fails(t, eight+"var v0 = 1;", api.ErrTwice)
	fails(t, eight+"var i = 1;", api.ErrTwice)
	fails(t, eight+"if (1) { var v3 = 1; }", api.ErrTwice)
	fails(t, eight+"var x = 1; var x = 2;", api.ErrVars)
	fails(t, eight+"var x = y;", api.ErrUnknown)
	fails(t, eight+"var x = x;", api.ErrUnknown)
	fails(t, eight+"var x = v7; emit y;", api.ErrVars)
}

// P6.1: the first error that is come to as names are gone through
func TestFirstError(t *testing.T) {
	for _, c := range []struct {
		s    string
		want api.Errno
	}{
		{"var i = x;", api.ErrUnknown}, {"var i = 1; emit x;", api.ErrTwice}, {"emit x; var i = 1;", api.ErrUnknown},
		{"into 2 x;", api.ErrUnknown}, {"into 2 1;", api.ErrCell}, {"into 2 i + x;", api.ErrUnknown}, {"into 2 i; emit x;", api.ErrCell}, {"into 2 i; var i = 1;", api.ErrCell}, {"var i = 1; into 2 1;", api.ErrTwice}, {"emit x; into 2 1;", api.ErrUnknown},
		{"if (x) { into 2 1; }", api.ErrUnknown}, {"if (1) { into 2 1; } else { emit x; }", api.ErrCell}, {"if (1) { var i = 1; } else { into 2 1; }", api.ErrTwice}, {"if (1) { emit x; } else { var i = 1; }", api.ErrUnknown}, {"if (1) { } else { into 2 1; } emit x;", api.ErrCell},
		{"while (x) { var i = 1; }", api.ErrUnknown}, {"while (1) { var i = 1; } into 2 1;", api.ErrTwice}, {"x = 1; into 2 1;", api.ErrUnknown},
		{"if (1) { var x = 1; } into 2 x;", api.ErrUnknown},
	} {
		fails(t, c.s, c.want)
	}
}

// P6.1: how many reductions there are
func TestCells(t *testing.T) {
	for _, cells := range []int{math.MinInt, -5, -1, 0, 1, 2, 3, 4, 5, 6, 255, 256, 257, math.MaxInt} {
		there := min(max(cells, 0), 4)
		for _, cell := range []int{0, 1, 2, 3, 4, 5, 6, 254, 255} {
			want := api.OK
			if cell >= there {
				want = api.ErrCell
			}
			for _, s := range []string{"into " + strconv.Itoa(cell) + " i;", "if (1) { into " + strconv.Itoa(cell) + " i; }"} {
				if slots, _, e := answers(t, s, cells); e != want || want == api.OK && !slices.Equal(slots, []int{1}) {
					t.Errorf("%q with %d: %v %d", s, cells, slots, e)
				}
			}
		}
		if slots, _, e := answers(t, "var x = k;", cells); e != api.OK || !slices.Equal(slots, []int{2, 3}) {
			t.Errorf("%d: %v %d", cells, slots, e)
		}
	}
}

// reference goes through names as the document's words say, by other means: rows of names for the blocks that are open, and a search for the least register.
type reference struct {
	blocks [][]string
	of     [][]int // the registers of those
	slots  []int
	most   int
	cells  int
}

func (r *reference) find(name string) int {
	if at := strings.Index("nik", name); at >= 0 && len(name) == 1 {
		return at
	}
	for i, block := range r.blocks {
		if at := slices.Index(block, name); at >= 0 {
			return r.of[i][at]
		}
	}
	return -1
}

func (r *reference) least() int {
	for slot := 3; ; slot++ {
		if !slices.ContainsFunc(r.of, func(l []int) bool { return slices.Contains(l, slot) }) {
			return slot
		}
	}
}

func (r *reference) names(e api.Expr) []string {
	var l []string
	for _, x := range e.Args {
		l = append(l, r.names(x)...)
	}
	if e.Kind == api.ExprName {
		l = append(l, e.Name)
	}
	return l
}

func (r *reference) through(l []api.Stmt) api.Errno {
	r.blocks, r.of = append(r.blocks, nil), append(r.of, nil)
	last := len(r.blocks) - 1
	for _, s := range l {
		var names []string
		for _, e := range s.Args {
			names = append(names, r.names(e)...)
		}
		if s.Kind == api.StmtSet {
			names = append(names, s.Name)
		}
		for _, name := range names {
			slot := r.find(name)
			if slot < 0 {
				return api.ErrUnknown
			}
			r.slots = append(r.slots, slot)
		}
		if s.Kind == api.StmtInto && (s.Cell >= r.cells || s.Cell >= 4) {
			return api.ErrCell
		}
		if s.Kind == api.StmtVar {
			if r.find(s.Name) >= 0 {
				return api.ErrTwice
			}
			many := len(slices.Concat(r.of...))
			if many == 8 {
				return api.ErrVars
			}
			slot := r.least()
			r.blocks[last], r.of[last] = append(r.blocks[last], s.Name), append(r.of[last], slot)
			r.slots, r.most = append(r.slots, slot), max(r.most, many+1)
		}
		for _, block := range [][]api.Stmt{s.Body, s.Else} {
			if e := r.through(block); e != api.OK {
				return e
			}
		}
	}
	r.blocks, r.of = r.blocks[:last], r.of[:last]
	return api.OK
}

// maker makes texts at random in which most names are there.
type maker struct {
	*rand.Rand
	there []string
	wrong int // one name in so many is any, one declaration in a fourth of it
}

func (m *maker) name() string {
	if m.Intn(m.wrong) == 0 {
		return string(rune('a' + m.Intn(16)))
	}
	return m.there[m.Intn(len(m.there))]
}

func (m *maker) expr(deep int) string {
	if deep == 0 {
		return m.name()
	}
	switch m.Intn(6) {
	case 0:
		return strconv.Itoa(m.Intn(100))
	case 1:
		return m.name()
	case 2:
		return "m[" + m.expr(deep-1) + "]"
	case 3:
		return "-" + m.expr(0)
	case 4:
		return "min(" + m.expr(deep-1) + ", " + m.expr(deep-1) + ")"
	}
	return "(" + m.expr(deep-1) + " + " + m.expr(deep-1) + ")"
}

func (m *maker) block(deep int) string {
	was := m.there
	s := ""
	for range 1 + m.Intn(8) {
		s += m.stmt(deep)
	}
	m.there = was
	return s
}

func (m *maker) stmt(deep int) string {
	e := m.expr(2)
	kind := m.Intn(12)
	if deep == 0 {
		kind = m.Intn(9)
	}
	switch kind {
	case 0:
		return "emit " + e + ";\n"
	case 1:
		return m.name() + " = " + e + ";\n"
	case 2:
		return "m[" + m.expr(1) + "] = " + e + ";\n"
	case 3:
		if m.Intn(m.wrong) == 0 {
			return "into " + strconv.Itoa(m.Intn(6)) + " " + e + ";\n"
		}
		return "into 0 " + e + ";\n"
	case 9:
		return "while (" + e + ") {\n" + m.block(deep-1) + "}\n"
	case 10:
		return "if (" + e + ") {\n" + m.block(deep-1) + "}\n"
	case 11:
		return "if (" + e + ") {\n" + m.block(deep-1) + "} else {\n" + m.block(deep-1) + "}\n"
	}
	name := string(rune('a' + m.Intn(26)))
	if name == "m" || m.Intn(m.wrong/4) > 0 && (len(m.there) > 10 || slices.Contains(m.there, name)) {
		return "stop;\n"
	}
	m.there = append(slices.Clip(m.there), name)
	return "var " + name + " = " + e + ";\n"
}

// P6.1, P6.2, P6.3: texts at random
func TestRandom(t *testing.T) {
	seen := map[api.Errno]int{}
	for round := range 6000 {
		m := &maker{rand.New(rand.NewSource(int64(round))), []string{"n", "i", "k"}, []int{20, 100, 1000}[round%3]}
		cells := m.Intn(8) - 1
		ahead := declares("", round%2*6)
		for _, x := range parsed(t, ahead) {
			m.there = append(m.there, x.Name)
		}
		s := ahead + m.block(3)
		l, _, e := tree.Parse(s)
		if e != api.OK {
			continue // a name that is any may be one of the language's own words
		}
		slots, most, e := answers(t, s, cells)
		seen[e]++
		r := &reference{cells: cells}
		want := r.through(l)
		if e != want || e == api.OK && (most != r.most || !slices.Equal(slots, r.slots)) {
			t.Fatalf("%s with %d: %v %d %d, not %v %d %d", s, cells, slots, most, e, r.slots, r.most, want)
		}
		follows(t, l, cells)
	}
	if seen[api.OK] < 1000 || seen[api.ErrUnknown] < 200 || seen[api.ErrTwice] < 100 || seen[api.ErrVars] < 50 || seen[api.ErrCell] < 100 {
		t.Error("too few:", seen)
	}
}

// follows: the registers of the first statements, and of all within an if, a while, an else.
func follows(t *testing.T, l []api.Stmt, cells int) {
	t.Helper()
	slots, e := Slots(l, cells)
	most, _ := Most(l, cells)
	for many := range l {
		first, no := Slots(l[:many], cells)
		if e == api.OK && (no != api.OK || !slices.Equal(first, slots[:min(len(first), len(slots))])) {
			t.Fatalf("%d statements: %v %d, of all: %v", many, first, no, slots)
		}
	}
	test := []api.Expr{{Kind: api.ExprNum, Num: 1}}
	for _, whole := range []api.Stmt{{Kind: api.StmtIf, Args: test, Body: l}, {Kind: api.StmtIf, Args: test, Else: l}, {Kind: api.StmtWhile, Args: test, Body: l}} {
		within, no := Slots([]api.Stmt{whole}, cells)
		if no != e || !slices.Equal(within, slots) {
			t.Fatalf("within another: %v %d, not %v %d", within, no, slots, e)
		}
		if n, no := Most([]api.Stmt{whole}, cells); no != e || n != most {
			t.Fatalf("within another: %d %d, not %d", n, no, most)
		}
	}
}

// P1: statements that may not be
func TestWrong(t *testing.T) {
	x := api.Expr{Kind: api.ExprName, Name: "i"}
	rows := [][]api.Stmt{nil, {}, {{}}, {{Kind: -1, Name: "x"}}, {{Kind: math.MaxInt, Cell: math.MaxInt}}, {{Kind: math.MinInt, Cell: math.MinInt}}}
	for kind := api.StmtKind(-1); kind < 12; kind++ {
		for _, name := range []string{"", "i", "if", "x", "a b", strings.Repeat("x", 5000)} {
			for _, cell := range []int{math.MinInt, -1, 0, 3, 256, math.MaxInt} {
				for _, args := range [][]api.Expr{nil, {}, {x}, {{}}, {x, x, x}, {{Kind: api.ExprName}}, {{Kind: 77, Args: []api.Expr{x, {Kind: -4, Args: []api.Expr{{}}}}}}, {{Kind: api.ExprName, Name: "i", Args: []api.Expr{x}}}} {
					s := api.Stmt{Kind: kind, Name: name, Cell: cell, Args: args}
					within := s
					within.Body, within.Else = []api.Stmt{s, {}}, []api.Stmt{s, s}
					rows = append(rows, []api.Stmt{s}, []api.Stmt{s, s}, []api.Stmt{within, s})
				}
			}
		}
	}
	deep, blocks := x, []api.Stmt{{Kind: api.StmtVar, Name: "x"}}
	for range 60000 {
		deep = api.Expr{Kind: api.ExprMem, Args: []api.Expr{deep}}
		blocks = []api.Stmt{{Kind: api.StmtWhile, Body: blocks}}
	}
	rows = append(rows, []api.Stmt{{Kind: api.StmtEmit, Args: []api.Expr{deep}}}, blocks, make([]api.Stmt, 100000))
	for _, l := range rows {
		for _, cells := range []int{math.MinInt, 0, 3, math.MaxInt} {
			slots, e := Slots(l, cells)
			most, no := Most(l, cells)
			if e != api.OK && len(slots) != 0 || no != api.OK && most != 0 {
				t.Fatalf("%v beside %d, %d beside %d", slots, e, most, no)
			}
			again, twice := Slots(l, cells)
			if twice != e || !slices.Equal(again, slots) {
				t.Fatal("two answers of one row")
			}
		}
	}
}

// P2, rule 5: an answer is new, and what lies behind a list's length is left alone
func TestNew(t *testing.T) {
	l := parsed(t, "var x = i; if (x) { var y = k; emit x + y; } x = n;")
	first, _ := Slots(l, 0)
	want := slices.Clone(first)
	for i := range first {
		first[i] = -1
	}
	if again, e := Slots(l, 0); e != api.OK || !slices.Equal(again, want) {
		t.Error(again, e)
	}
	args := []api.Expr{{Kind: api.ExprName, Name: "i"}, {Kind: api.ExprName, Name: "unknown"}}
	behind := []api.Stmt{{Kind: api.StmtEmit, Args: args[:1]}, {Kind: api.StmtSet, Name: "unknown"}}
	whole := []api.Stmt{{Kind: api.StmtIf, Args: args[:1], Body: behind[:1], Else: behind[:1]}, behind[1]}
	if slots, e := Slots(whole[:1], 0); e != api.OK || !slices.Equal(slots, []int{1, 1, 1}) {
		t.Error(slots, e)
	}
	if args[1].Name != "unknown" || behind[1].Name != "unknown" || whole[1].Kind != api.StmtSet {
		t.Error("changed")
	}
}
