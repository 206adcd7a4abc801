package show

import (
	"math/rand"
	"strconv"
	"strings"
	"testing"

	"outrider/api"
	"outrider/lex"
	"outrider/tree"
)

func stmt(kind api.StmtKind, args ...api.Expr) api.Stmt { return api.Stmt{Kind: kind, Args: args} }

func row(l ...api.Stmt) []api.Stmt { return l }

func choose(e api.Expr, body, other []api.Stmt) api.Stmt {
	return api.Stmt{Kind: api.StmtIf, Args: []api.Expr{e}, Body: body, Else: other}
}

func repeat(e api.Expr, body ...api.Stmt) api.Stmt {
	return api.Stmt{Kind: api.StmtWhile, Args: []api.Expr{e}, Body: body}
}

func set(name string, e api.Expr) api.Stmt {
	return api.Stmt{Kind: api.StmtSet, Name: name, Args: []api.Expr{e}}
}

func declare(name string, e api.Expr) api.Stmt {
	return api.Stmt{Kind: api.StmtVar, Name: name, Args: []api.Expr{e}}
}

func into(cell int, e api.Expr) api.Stmt {
	return api.Stmt{Kind: api.StmtInto, Cell: cell, Args: []api.Expr{e}}
}

// holds: what is promised of all statements that are right, and whose text isn't too long.
func holds(t *testing.T, l []api.Stmt) string {
	t.Helper()
	was := tree.Copy(l)
	s, e := Text(l)
	if e != api.OK {
		t.Fatal(e, l)
	}
	if !tree.Same(l, was) {
		t.Fatalf("%q: what was handed in is changed", s)
	}
	again, at, e := tree.Parse(s)
	if e != api.OK || !tree.Same(again, l) {
		t.Fatalf("%q is parsed as another: %d %d", s, at, e)
	}
	if twice, e := Text(again); twice != s || e != api.OK {
		t.Fatalf("%q is written again as %q", s, twice)
	}
	return s
}

// P5.1: each kind of statement
func TestText(t *testing.T) {
	x, i, stop := named("x"), named("i"), stmt(api.StmtStop)
	sum := two(api.OpAdd, i, number(1))
	for _, c := range []struct {
		l    []api.Stmt
		want string
	}{
		{nil, ""}, {row(), ""},
		{row(stop), "stop;\n"}, {row(stop, stop), "stop;\nstop;\n"},
		{row(declare("x", number(7))), "var x = 7;\n"}, {row(declare("abcdefghijkl", sum)), "var abcdefghijkl = i + 1;\n"},
		{row(set("x", sum)), "x = i + 1;\n"},
		{row(stmt(api.StmtStore, x, i)), "m[x] = i;\n"}, {row(stmt(api.StmtStore, sum, two(api.OpEq, x, i))), "m[i + 1] = x == i;\n"}, {row(stmt(api.StmtStore, memory(x), memory(i))), "m[m[x]] = m[i];\n"},
		{row(stmt(api.StmtEmit, sum)), "emit i + 1;\n"}, {row(stmt(api.StmtFail, sum)), "fail i + 1;\n"}, {row(stmt(api.StmtFail, one(api.OpNeg, x))), "fail -x;\n"},
		{row(into(0, x)), "into 0 x;\n"}, {row(into(9, sum)), "into 9 i + 1;\n"}, {row(into(10, number(10))), "into 10 10;\n"}, {row(into(255, one(api.OpNeg, sum))), "into 255 -(i + 1);\n"},
		{row(stmt(api.StmtEmit, two(api.OpSub, number(1), two(api.OpSub, number(2), number(3))))), "emit 1 - (2 - 3);\n"},
		{row(into(0, one(api.OpNeg, sum))), "into 0 -(i + 1);\n"},
		{row(stmt(api.StmtEmit, two(api.OpMul, one(api.OpNeg, one(api.OpNot, x)), number(2)))), "emit -!x * 2;\n"},
		{row(repeat(x)), "while (x) {\n}\n"}, {row(repeat(sum, stop)), "while (i + 1) {\n  stop;\n}\n"}, {row(repeat(x, stop, repeat(i, stop), stop)), "while (x) {\n  stop;\n  while (i) {\n    stop;\n  }\n  stop;\n}\n"},
		{row(repeat(x, repeat(x))), "while (x) {\n  while (x) {\n  }\n}\n"},
		{row(choose(x, nil, nil)), "if (x) {\n}\n"}, {row(choose(x, row(stop), nil)), "if (x) {\n  stop;\n}\n"}, {row(choose(x, row(stop), row())), "if (x) {\n  stop;\n}\n"},
		{row(choose(x, nil, row(stop))), "if (x) {\n} else {\n  stop;\n}\n"}, {row(choose(sum, row(stop, stop), row(stop, stop))), "if (i + 1) {\n  stop;\n  stop;\n} else {\n  stop;\n  stop;\n}\n"},
		{row(choose(x, nil, row(choose(i, nil, nil)))), "if (x) {\n} else if (i) {\n}\n"},
		{row(choose(x, row(stop), row(choose(i, row(stop), row(stop))))), "if (x) {\n  stop;\n} else if (i) {\n  stop;\n} else {\n  stop;\n}\n"},
		{row(choose(x, nil, row(choose(i, nil, row(choose(sum, row(stop), nil)))))), "if (x) {\n} else if (i) {\n} else if (i + 1) {\n  stop;\n}\n"},
		{row(choose(x, nil, row(choose(i, nil, nil), stop))), "if (x) {\n} else {\n  if (i) {\n  }\n  stop;\n}\n"},
		{row(choose(x, nil, row(stop, choose(i, nil, nil)))), "if (x) {\n} else {\n  stop;\n  if (i) {\n  }\n}\n"},
		{row(choose(x, nil, row(choose(i, nil, nil), choose(i, nil, nil)))), "if (x) {\n} else {\n  if (i) {\n  }\n  if (i) {\n  }\n}\n"},
		{row(choose(x, nil, row(repeat(i)))), "if (x) {\n} else {\n  while (i) {\n  }\n}\n"},
		{row(choose(x, nil, row(choose(i, nil, row(repeat(x, stop)))))), "if (x) {\n} else if (i) {\n} else {\n  while (x) {\n    stop;\n  }\n}\n"},
		{row(choose(x, row(choose(i, row(stop), nil)), row(stop))), "if (x) {\n  if (i) {\n    stop;\n  }\n} else {\n  stop;\n}\n"},
		{row(repeat(x, choose(i, nil, row(choose(x, row(stop), row(stop)))))), "while (x) {\n  if (i) {\n  } else if (x) {\n    stop;\n  } else {\n    stop;\n  }\n}\n"},
		{row(choose(x, nil, nil), stop), "if (x) {\n}\nstop;\n"},
	} {
		if got := holds(t, c.l); got != c.want {
			t.Errorf("%q, not %q", got, c.want)
		}
	}
}

func many(n int, s api.Stmt) []api.Stmt {
	var l []api.Stmt
	for range n {
		l = append(l, s)
	}
	return l
}

// sized: a statement whose line has so many bytes, from 7 to 36.
func sized(bytes int) api.Stmt {
	digits := min(19, bytes-len("x = ;\n"))
	n := int64(1)
	for range digits - 1 {
		n *= 10
	}
	return set(strings.Repeat("x", bytes-len(" = ;\n")-digits), number(n))
}

// long: statements whose lines have so many bytes (no few), if so many stand ahead of each.
func long(bytes, ahead int) []api.Stmt {
	most := 36 + ahead
	var l []api.Stmt
	for ; bytes >= 2*most; bytes -= most {
		l = append(l, sized(36))
	}
	return append(l, sized(bytes/2-ahead), sized(bytes-bytes/2-ahead))
}

// P5.1: a text of MaxText bytes, and of one more
func TestLong(t *testing.T) {
	one := number(1)
	for _, c := range []struct {
		wrap        func(l []api.Stmt) []api.Stmt
		ahead, more int // bytes ahead of each line, and of the lines around
	}{
		{func(l []api.Stmt) []api.Stmt { return l }, 0, 0},
		{func(l []api.Stmt) []api.Stmt { return row(repeat(one, l...)) }, 2, len("while (1) {\n}\n")},
		{func(l []api.Stmt) []api.Stmt { return row(choose(one, l, nil)) }, 2, len("if (1) {\n}\n")},
		{func(l []api.Stmt) []api.Stmt { return row(choose(one, nil, l)) }, 2, len("if (1) {\n} else {\n}\n")},
		{func(l []api.Stmt) []api.Stmt { return row(choose(one, nil, row(choose(one, nil, l)))) }, 2, len("if (1) {\n} else if (1) {\n} else {\n}\n")},
		{func(l []api.Stmt) []api.Stmt { return row(repeat(one, repeat(one, l...))) }, 4, len("while (1) {\n  while (1) {\n  }\n}\n")},
	} {
		for bytes := api.MaxText - 40; bytes <= api.MaxText; bytes++ {
			if s := holds(t, c.wrap(long(bytes-c.more, c.ahead))); len(s) != bytes {
				t.Fatalf("%d bytes, not %d", len(s), bytes)
			}
		}
		for bytes := api.MaxText + 1; bytes < api.MaxText+40; bytes++ {
			if s, e := Text(c.wrap(long(bytes-c.more, c.ahead))); s != "" || e != api.ErrLong {
				t.Fatalf("%d bytes: %d bytes, %d", bytes, len(s), e)
			}
		}
	}
}

// P5.1: statements that may not be, also where their text would be too long
func TestWrong(t *testing.T) {
	x := named("x")
	for _, wrong := range []api.Stmt{
		{}, {Kind: -1}, {Kind: 10}, stmt(api.StmtEmit), stmt(api.StmtEmit, x, x), stmt(api.StmtStop, x), stmt(api.StmtStore, x), stmt(api.StmtEmit, number(-1)), stmt(api.StmtEmit, named("if")),
		stmt(api.StmtEmit, two(api.OpNeg, x, x)), stmt(api.StmtEmit, one(api.OpAdd, x)), set("", x), set("m", x), declare("abcdefghijklm", x), into(-1, x), into(256, x),
		stmt(api.StmtIf), stmt(api.StmtWhile), {Kind: api.StmtWhile, Args: []api.Expr{x}, Else: row(stmt(api.StmtStop))}, {Kind: api.StmtStop, Body: row(stmt(api.StmtStop))}, choose(x, row(api.Stmt{}), nil), choose(x, nil, row(api.Stmt{})),
		{Kind: api.StmtEmit, Args: []api.Expr{x}, Cell: 1},
	} {
		for _, l := range [][]api.Stmt{row(wrong), row(stmt(api.StmtStop), wrong), row(repeat(x, wrong)), append(long(api.MaxText+1, 0), wrong), append(row(wrong), long(api.MaxText+1, 0)...)} {
			if s, e := Text(l); s != "" || e != api.ErrTree {
				t.Errorf("%v: %q %d", wrong, s, e)
			}
		}
	}
	nested := row(stmt(api.StmtStop))
	for range 12 {
		nested = row(choose(number(1), nested, nil))
	}
	holds(t, nested)
	for _, l := range [][]api.Stmt{row(choose(x, nested, nil)), row(choose(x, nil, nested)), row(repeat(x, nested...)), many(601, stmt(api.StmtStop)), many(400, set("abcdefghijkl", number(1<<60)))} {
		if s, e := Text(l); s != "" || e != api.ErrTree {
			t.Errorf("%q %d", s, e)
		}
	}
	holds(t, many(600, stmt(api.StmtStop)))
}

// P5.3: as many blocks, and ifs behind elses, as may lie within one another
func TestNested(t *testing.T) {
	chain := row(stmt(api.StmtStop))
	want := ""
	for at := range 12 {
		chain = row(choose(number(int64(11-at)), nil, chain))
		want += "} else if (" + strconv.Itoa(at) + ") {\n"
	}
	if got := holds(t, chain); got != strings.TrimPrefix(want, "} else ")+"} else {\n  stop;\n}\n" {
		t.Errorf("%q", got)
	}
	blocks := row(stmt(api.StmtStop))
	for range 12 {
		blocks = row(repeat(number(1), blocks...))
	}
	if got := holds(t, blocks); !strings.Contains(got, "\n"+strings.Repeat(" ", 24)+"stop;\n"+strings.Repeat(" ", 22)+"}\n") {
		t.Errorf("%q", got)
	}
}

// layout lays tokens out by themselves, without a tree: so is seen where blanks and lines must be.
type layout struct {
	text   strings.Builder
	blocks int
}

func laidOut(s string) string {
	l, _, _ := lex.Cut(s)
	y := &layout{}
	for i, x := range l[:len(l)-1] {
		if i == 0 || endsLine(l[i-1], x) {
			if i > 0 {
				y.text.WriteString("\n")
			}
			y.begin(x)
		} else if blankBetween(l, i) {
			y.text.WriteString(" ")
		}
		y.text.WriteString(x.Text)
		if x.Text == "{" {
			y.blocks++
		}
		if x.Text == "}" {
			y.blocks--
		}
	}
	if len(l) > 1 {
		y.text.WriteString("\n")
	}
	return y.text.String()
}

func (y *layout) begin(x api.Token) {
	blocks := y.blocks
	if x.Text == "}" {
		blocks--
	}
	y.text.WriteString(strings.Repeat("  ", blocks))
}

func endsLine(a, b api.Token) bool {
	return a.Text == ";" || a.Text == "{" || a.Text == "}" && b.Text != "else"
}

func blankBetween(l []api.Token, at int) bool {
	a, b := l[at-1], l[at]
	if b.Text == ";" {
		return false
	}
	if a.Kind == api.TokWord && a.Text != "m" && a.Text != "min" && a.Text != "max" || a.Text == "," || b.Text == "{" || b.Text == "else" {
		return true
	}
	if at > 1 && l[at-2].Text == "into" {
		return true
	}
	return isBetween(l, at-1) || isBetween(l, at)
}

// isBetween: is a token a sign with an expression, or what a value goes to, on its left?
func isBetween(l []api.Token, at int) bool {
	rank, _ := tree.Rank(l[at].Text)
	if rank == 0 && l[at].Text != "=" || at == 0 {
		return false
	}
	left := l[at-1]
	return left.Kind == api.TokName || left.Text == ")" || left.Text == "]" || left.Kind == api.TokNum && (at < 2 || l[at-2].Text != "into")
}

// leftOut: for each pair of brackets around an expression, the text without it.
func leftOut(s string) []string {
	l, _, _ := lex.Cut(s)
	var texts []string
	var open []int // the places of those that aren't shut; below 0 those that have to stand
	for i, x := range l {
		if x.Text == "(" && i > 0 && l[i-1].Kind == api.TokWord && l[i-1].Text != "emit" && l[i-1].Text != "fail" {
			open = append(open, -1)
		} else if x.Text == "(" {
			open = append(open, x.At)
		}
		if x.Text != ")" {
			continue
		}
		from := open[len(open)-1]
		open = open[:len(open)-1]
		if from >= 0 {
			texts = append(texts, s[:from]+" "+s[from+1:x.At]+" "+s[x.At+1:])
		}
	}
	return texts
}

// maker makes right trees at random.
type maker struct {
	*rand.Rand
}

func (m maker) expr(deep int) api.Expr {
	kind := m.Intn(7)
	if deep == 0 {
		kind = m.Intn(2)
	}
	switch kind {
	case 0:
		return number(m.Int63() >> m.Intn(63))
	case 1:
		return named([]string{"x", "i", "abcdefghijkl", "_1"}[m.Intn(4)])
	case 2:
		return memory(m.expr(deep - 1))
	case 3:
		return one(api.OpNeg+api.Op(m.Intn(3)), m.expr(deep-1))
	}
	return two(api.OpAdd+api.Op(m.Intn(18)), m.expr(deep-1), m.expr(deep-1))
}

func (m maker) stmts(deep int) []api.Stmt {
	var l []api.Stmt
	for range m.Intn(4) {
		l = append(l, m.stmt(deep))
	}
	return l
}

func (m maker) stmt(deep int) api.Stmt {
	kind := api.StmtKind(1 + m.Intn(9))
	if deep == 0 && (kind == api.StmtIf || kind == api.StmtWhile) {
		kind = api.StmtStop
	}
	s := stmt(kind, m.expr(3))
	switch kind {
	case api.StmtVar, api.StmtSet:
		s.Name = "y"
	case api.StmtStore:
		s.Args = append(s.Args, m.expr(3))
	case api.StmtInto:
		s.Cell = m.Intn(256)
	case api.StmtIf:
		s.Body, s.Else = m.stmts(deep-1), m.stmts(deep-1)
	case api.StmtWhile:
		s.Body = m.stmts(deep - 1)
	case api.StmtStop:
		s.Args = nil
	}
	return s
}

// P5.1, P5.3: trees at random: their layout, that they are parsed as the same, and that no brackets can be left out
func TestRandom(t *testing.T) {
	m := maker{rand.New(rand.NewSource(11))}
	written, brackets := 0, 0
	for range 4000 {
		l := m.stmts(4)
		if s, e := Text(l); e != api.OK {
			if right := tree.Right(l); s != "" || right || e != api.ErrTree {
				t.Fatal(e, right, len(s))
			}
			continue
		}
		written++
		s := holds(t, l)
		if want := laidOut(s); s != want {
			t.Fatalf("%q isn't laid out as %q", s, want)
		}
		for _, other := range leftOut(s) {
			brackets++
			if again, _, e := tree.Parse(other); e == api.OK && tree.Same(again, l) {
				t.Fatalf("%q has brackets that can be left out: %q", s, other)
			}
		}
	}
	if written < 3000 || brackets < 5000 {
		t.Error("too few:", written, brackets)
	}
}

// P5.3: what is parsed of any text, written and parsed again, is the same
func TestParsedAndWritten(t *testing.T) {
	for _, c := range []struct{ s, want string }{
		{"", ""}, {"# a remark", ""}, {"emit((1));", "emit 1;\n"}, {"emit (1+2)+3;", "emit 1 + 2 + 3;\n"}, {"emit 1+(2+3);", "emit 1 + (2 + 3);\n"}, {"emit(1*2)+(3*4);", "emit 1 * 2 + 3 * 4;\n"},
		{"if(i){}else{}", "if (i) {\n}\n"}, {"if(i){}else{if(k){}}", "if (i) {\n} else if (k) {\n}\n"}, {"if(i){}else if(k){}else{stop;}", "if (i) {\n} else if (k) {\n} else {\n  stop;\n}\n"}, {"if(i){}else{if(k){}else{stop;}}", "if (i) {\n} else if (k) {\n} else {\n  stop;\n}\n"},
		{"if(i){}else{if(k){}stop;}", "if (i) {\n} else {\n  if (k) {\n  }\n  stop;\n}\n"}, {"if(i){if(k){}else{stop;}}", "if (i) {\n  if (k) {\n  } else {\n    stop;\n  }\n}\n"},
		{"emit -(-(-1));", "emit ---1;\n"}, {"emit (-1)-(-1);", "emit -1 - -1;\n"}, {"emit -(1)*2;", "emit -1 * 2;\n"}, {"m[(0)]=(m[(1)]);", "m[0] = m[1];\n"}, {"while((1)){}", "while (1) {\n}\n"}, {"emit min((1|2),(3));", "emit min(1 | 2, 3);\n"},
	} {
		l, at, e := tree.Parse(c.s)
		if e != api.OK {
			t.Fatal(c.s, at, e)
		}
		if got := holds(t, l); got != c.want {
			t.Errorf("%q: %q, not %q", c.s, got, c.want)
		}
	}
}

// P2, rule 5: what lies behind a list's length is neither read nor written
func TestBehindLists(t *testing.T) {
	x := named("x")
	args := []api.Expr{x, number(-7)}
	body := []api.Stmt{stmt(api.StmtStop), {Name: "behind"}}
	l := []api.Stmt{{Kind: api.StmtIf, Args: args[:1], Body: body[:1], Else: body[:1]}, {Kind: 77}}
	if got := holds(t, l[:1]); got != "if (x) {\n  stop;\n} else {\n  stop;\n}\n" {
		t.Errorf("%q", got)
	}
	if args[1].Num != -7 || body[1].Name != "behind" || l[1].Kind != 77 {
		t.Error("changed")
	}
	e := api.Expr{Kind: api.ExprOne, Op: api.OpNeg, Args: args[:1]}
	if got := Expr(e); got != "-x" || args[1].Num != -7 || args[0].Name != "x" || e.Op != api.OpNeg {
		t.Errorf("%q", got)
	}
}
