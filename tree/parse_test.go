package tree

import (
	"math/rand"
	"strconv"
	"strings"
	"testing"

	"outrider/api"
	"outrider/lex"
)

// told writes a tree so that nothing of it is lost: kinds and operations as numbers, all parts in brackets.
func told(l []api.Stmt) string {
	var b strings.Builder
	for _, s := range l {
		b.WriteString("<" + strconv.Itoa(int(s.Kind)) + " " + s.Name + " " + strconv.Itoa(s.Cell) + toldExprs(s.Args) + "{" + told(s.Body) + "}{" + told(s.Else) + "}>")
	}
	return b.String()
}

func toldExprs(l []api.Expr) string {
	var b strings.Builder
	for _, e := range l {
		b.WriteString("(" + strconv.Itoa(int(e.Kind)) + " " + strconv.FormatInt(e.Num, 10) + " " + e.Name + " " + strconv.Itoa(int(e.Op)) + toldExprs(e.Args) + ")")
	}
	return b.String()
}

func number(n int64) api.Expr { return api.Expr{Kind: api.ExprNum, Num: n} }

func named(s string) api.Expr { return api.Expr{Kind: api.ExprName, Name: s} }

func memory(at api.Expr) api.Expr { return api.Expr{Kind: api.ExprMem, Args: []api.Expr{at}} }

func one(op api.Op, e api.Expr) api.Expr {
	return api.Expr{Kind: api.ExprOne, Op: op, Args: []api.Expr{e}}
}

func two(op api.Op, a, b api.Expr) api.Expr {
	return api.Expr{Kind: api.ExprTwo, Op: op, Args: []api.Expr{a, b}}
}

func stmt(kind api.StmtKind, args ...api.Expr) api.Stmt { return api.Stmt{Kind: kind, Args: args} }

func row(l ...api.Stmt) []api.Stmt { return l }

func parses(t *testing.T, s string) []api.Stmt {
	t.Helper()
	l, at, e := Parse(s)
	if at != 0 || e != api.OK {
		t.Fatalf("%q: %d %d", s, at, e)
	}
	return l
}

func fails(t *testing.T, s string, at int, e api.Errno) {
	t.Helper()
	if l, gotAt, gotE := Parse(s); len(l) != 0 || gotAt != at || gotE != e {
		t.Errorf("%q: %d statements, %d %d, not %d %d", s, len(l), gotAt, gotE, at, e)
	}
}

// P4.1: each kind of expression and statement
func TestParse(t *testing.T) {
	x, i := named("x"), named("i")
	set := func(name string, e api.Expr) api.Stmt {
		return api.Stmt{Kind: api.StmtSet, Name: name, Args: []api.Expr{e}}
	}
	choose := func(e api.Expr, body, other []api.Stmt) api.Stmt {
		return api.Stmt{Kind: api.StmtIf, Args: []api.Expr{e}, Body: body, Else: other}
	}
	stop := stmt(api.StmtStop)
	for _, c := range []struct {
		s    string
		want []api.Stmt
	}{
		{"", nil},
		{" # nothing", nil},
		{"emit 1 + 2 * 3;", row(stmt(api.StmtEmit, two(api.OpAdd, number(1), two(api.OpMul, number(2), number(3)))))},
		{"emit 5 - 2 - 1;", row(stmt(api.StmtEmit, two(api.OpSub, two(api.OpSub, number(5), number(2)), number(1))))},
		{"emit 5 - (2 - 1);", row(stmt(api.StmtEmit, two(api.OpSub, number(5), two(api.OpSub, number(2), number(1)))))},
		{"x = -m[i] << 1;", row(set("x", two(api.OpShl, one(api.OpNeg, memory(i)), number(1))))},
		{"if (i) { stop; } else if (k) { }", row(choose(i, row(stop), row(choose(named("k"), nil, nil))))},
		{"if (i) { } else { if (k) { } }", row(choose(i, nil, row(choose(named("k"), nil, nil))))},
		{"if (i) { } else { stop; stop; } stop;", row(choose(i, nil, row(stop, stop)), stop)},
		{"if (0) { } else { }", row(choose(number(0), nil, nil))},
		{"if (i) { } else if (x) { } else { stop; }", row(choose(i, nil, row(choose(x, nil, row(stop)))))},
		{"if (i) { if (x) { } } else { stop; }", row(choose(i, row(choose(x, nil, nil)), row(stop)))},
		{"var x = 7;", row(api.Stmt{Kind: api.StmtVar, Name: "x", Args: []api.Expr{number(7)}})},
		{"m[x] = i;", row(stmt(api.StmtStore, x, i))},
		{"m[m[0]] = m[1];", row(stmt(api.StmtStore, memory(number(0)), memory(number(1))))},
		{"fail 9223372036854775807;", row(stmt(api.StmtFail, number(1<<63-1)))},
		{"into 0 x;", row(stmt(api.StmtInto, x))},
		{"into 255 x;", row(api.Stmt{Kind: api.StmtInto, Cell: 255, Args: []api.Expr{x}})},
		{"into 1 (2);", row(api.Stmt{Kind: api.StmtInto, Cell: 1, Args: []api.Expr{number(2)}})},
		{"into 1 -2;", row(api.Stmt{Kind: api.StmtInto, Cell: 1, Args: []api.Expr{one(api.OpNeg, number(2))}})},
		{"while (x) { x = 0; }", row(api.Stmt{Kind: api.StmtWhile, Args: []api.Expr{x}, Body: row(set("x", number(0)))})},
		{"while(1){}", row(stmt(api.StmtWhile, number(1)))},
		{"stop;stop;", row(stop, stop)},
		{"emit min(x, i + 1);", row(stmt(api.StmtEmit, two(api.OpMin, x, two(api.OpAdd, i, number(1)))))},
		{"emit max(x | i, min(0, 1)) * 2;", row(stmt(api.StmtEmit, two(api.OpMul, two(api.OpMax, two(api.OpOr, x, i), two(api.OpMin, number(0), number(1))), number(2))))},
		{"emit -~!x;", row(stmt(api.StmtEmit, one(api.OpNeg, one(api.OpCom, one(api.OpNot, x)))))},
		{"emit -1 - -1;", row(stmt(api.StmtEmit, two(api.OpSub, one(api.OpNeg, number(1)), one(api.OpNeg, number(1)))))},
		{"emit -x * i;", row(stmt(api.StmtEmit, two(api.OpMul, one(api.OpNeg, x), i)))},
		{"emit -(x * i);", row(stmt(api.StmtEmit, one(api.OpNeg, two(api.OpMul, x, i))))},
		{"emit !x == i;", row(stmt(api.StmtEmit, two(api.OpEq, one(api.OpNot, x), i)))},
		{"emit !min(x, i);", row(stmt(api.StmtEmit, one(api.OpNot, two(api.OpMin, x, i))))},
		{"emit ((x));", row(stmt(api.StmtEmit, x))},
		{"minx = maxy;", row(set("minx", named("maxy")))},
	} {
		if got := parses(t, c.s); told(got) != told(c.want) {
			t.Errorf("%q: %s, not %s", c.s, told(got), told(c.want))
		}
	}
}

// P4.1: layer 3's errors, ahead of those of tokens left of them
func TestParseCuts(t *testing.T) {
	fails(t, "else $", 5, api.ErrByte)
	fails(t, "emit 07;", 5, api.ErrNum)
	fails(t, "; 7a", 3, api.ErrByte)
	fails(t, ") abcdefghijklm", 2, api.ErrName)
	fails(t, strings.Repeat(" ", api.MaxText+1), 0, api.ErrLong)
	fails(t, "}"+strings.Repeat(" ", api.MaxText), 0, api.ErrLong)
	fails(t, "emit "+strings.Repeat("(", 49)+"?", 54, api.ErrByte)
	fails(t, strings.Repeat("stop;", 601)+"?", 3005, api.ErrByte)
}

// P4.1: the first token that can't stand there
func TestParseTokens(t *testing.T) {
	for _, c := range []struct {
		s  string
		at int
	}{
		{"emit 1", 6}, {"emit;", 4}, {"into 256 1;", 5}, {"emit (1;", 7}, {"else", 0},
		{"into 9223372036854775807 1;", 5}, {"into 4294967296 1;", 5}, {"into x 1;", 5}, {"into -1 1;", 5}, {"into (1) 1;", 5}, {"into 1;", 6}, {"into 1", 6}, {"into", 4}, {"into 1 2 3;", 9},
		{";", 0}, {"{ }", 0}, {"}", 0}, {"(x) = 1;", 0}, {"1;", 0}, {"-x;", 0}, {"min(1, 2);", 0}, {"max = 1;", 0}, {"=", 0},
		{"var", 3}, {"var 1 = 2;", 4}, {"var m = 2;", 4}, {"var min = 2;", 4}, {"var x 2;", 6}, {"var x == 2;", 6}, {"var x;", 5}, {"var x = ;", 8}, {"var x = 1", 9},
		{"x", 1}, {"x = 1", 5}, {"x 1", 2}, {"x == 1;", 2}, {"x = = 1;", 4}, {"x[0] = 1;", 1},
		{"m = 1;", 2}, {"m[1];", 4}, {"m[1 = 1;", 4}, {"m[] = 1;", 2}, {"m(1) = 1;", 1}, {"m[1) = 1;", 3}, {"m[1] = 1", 8}, {"m[1] == 1;", 5},
		{"emit if;", 5}, {"emit stop;", 5}, {"emit 1 2;", 7}, {"emit 1 +;", 8}, {"emit + 1;", 5}, {"emit 1 ~ 1;", 7}, {"emit 1 ! 1;", 7}, {"emit 1 = 1;", 7}, {"emit 1, 2;", 6},
		{"emit ();", 6}, {"emit (1, 2);", 7}, {"emit (1];", 7}, {"emit m[1);", 8}, {"emit m;", 6}, {"emit m(1);", 6}, {"emit min(1);", 10}, {"emit min 1, 2;", 9}, {"emit max(1, 2, 3);", 13}, {"emit max(1, );", 12}, {"emit max[1, 2];", 8}, {"emit min(1 2);", 11}, {"emit x(1);", 6},
		{"fail;", 4}, {"fail 1", 6}, {"stop", 4}, {"stop 1;", 5}, {"stop;;", 5},
		{"if x { }", 3}, {"if () { }", 4}, {"if (x) stop;", 7}, {"if (x { }", 6}, {"if (x) { stop }", 14}, {"if (x) {", 8}, {"if (x) { };", 10}, {"if (x) { } else", 15}, {"if (x) { } else stop;", 16}, {"if (x) { } else while (x) { }", 16}, {"if (x) { } else { } else { }", 20}, {"if [x] { }", 3}, {"if (x) } ", 7}, {"if", 2},
		{"while x { }", 6}, {"while (x) stop;", 10}, {"while (x) { } else { }", 14}, {"while (x) { if (x) { }", 22}, {"while (x) { } }", 14}, {"while", 5}, {"while (x) { else", 12},
		{"# x\n$"[:4] + "else", 4},
	} {
		fails(t, c.s, c.at, api.ErrToken)
	}
}

// recogniser goes through tokens with a row of what must come, the grammar's parts among it; it tells where a token can't stand.
type recogniser struct {
	comes []string // what must come, the next one last
}

func (r *recogniser) push(parts ...string) {
	for i := len(parts) - 1; i >= 0; i-- {
		r.comes = append(r.comes, parts[i])
	}
}

func (r *recogniser) pop() string {
	x := r.comes[len(r.comes)-1]
	r.comes = r.comes[:len(r.comes)-1]
	return x
}

func shown(x api.Token) string {
	switch x.Kind {
	case api.TokNum:
		return "number"
	case api.TokName:
		return "name"
	case api.TokEnd:
		return "end"
	}
	return x.Text
}

// standsIn: the rule's row for a token, and whether there is one.
func standsIn(rule, x string) ([]string, bool) {
	switch rule + " " + x {
	case "STMTS var":
		return []string{"var", "name", "=", "EXPR", ";", "STMTS"}, true
	case "STMTS name":
		return []string{"name", "=", "EXPR", ";", "STMTS"}, true
	case "STMTS m":
		return []string{"m", "[", "EXPR", "]", "=", "EXPR", ";", "STMTS"}, true
	case "STMTS emit", "STMTS fail":
		return []string{x, "EXPR", ";", "STMTS"}, true
	case "STMTS into":
		return []string{"into", "number", "EXPR", ";", "STMTS"}, true
	case "STMTS stop":
		return []string{"stop", ";", "STMTS"}, true
	case "STMTS if":
		return []string{"if", "(", "EXPR", ")", "{", "STMTS", "}", "ELSE", "STMTS"}, true
	case "STMTS while":
		return []string{"while", "(", "EXPR", ")", "{", "STMTS", "}", "STMTS"}, true
	case "ELSE else":
		return []string{"else", "BEHIND"}, true
	case "BEHIND {":
		return []string{"{", "STMTS", "}"}, true
	case "BEHIND if":
		return []string{"if", "(", "EXPR", ")", "{", "STMTS", "}", "ELSE"}, true
	case "EXPR number", "EXPR name":
		return []string{x, "MORE"}, true
	case "EXPR m":
		return []string{"m", "[", "EXPR", "]", "MORE"}, true
	case "EXPR (":
		return []string{"(", "EXPR", ")", "MORE"}, true
	case "EXPR min", "EXPR max":
		return []string{x, "(", "EXPR", ",", "EXPR", ")", "MORE"}, true
	case "EXPR -", "EXPR ~", "EXPR !":
		return []string{x, "EXPR"}, true
	}
	if rule == "MORE" && strings.Contains(" | ^ & == != < <= > >= << >> + - * / % ", " "+x+" ") {
		return []string{x, "EXPR"}, true
	}
	return nil, rule == "STMTS" || rule == "ELSE" || rule == "MORE" // that may be nothing
}

// place: of the first token that can't stand where it does, or -1.
func (r *recogniser) place(l []api.Token) int {
	r.push("STMTS", "end")
	for _, x := range l {
		for {
			want := r.pop()
			if want == shown(x) {
				break
			}
			parts, can := standsIn(want, shown(x))
			if !can {
				return x.At
			}
			r.push(parts...)
		}
	}
	return -1
}

func someTokens() []string {
	return strings.Fields("var if else while emit into fail stop m min max == != <= >= << >> = < > + - * / % & | ^ ~ ! ( ) [ ] { } ; , x y 0 1 255 256")
}

func hasGreatCell(s string) bool {
	return strings.Contains(s, "into 256")
}

// finish: the shortest way on from what has been read.
func (r *recogniser) finish() string {
	s := ""
	for x := r.pop(); x != "end"; x = r.pop() {
		switch x {
		case "STMTS", "ELSE", "MORE":
		case "BEHIND":
			s += " { }"
		case "EXPR", "number":
			s += " 1"
		case "name":
			s += " x"
		default:
			s += " " + x
		}
	}
	return s
}

// reads: the recogniser behind a text that isn't at its end yet, and whether all of it can stand.
func reads(s string) (*recogniser, bool) {
	l, _, _ := lex.Cut(s)
	r := &recogniser{}
	return r, r.place(l[:len(l)-1]) < 0 && !hasGreatCell(s)
}

// P4.1: rows of tokens at random; each goes on from one that can stand, as far as one is found
func TestParseRandom(t *testing.T) {
	random := rand.New(rand.NewSource(5))
	all := someTokens()
	for range 500 {
		s := ""
		for range random.Intn(40) {
			for range 80 {
				more := s + " " + all[random.Intn(len(all))]
				if _, can := reads(more); can {
					s = more
					break
				}
			}
			agree(t, s+" "+all[random.Intn(len(all))])
		}
		agree(t, s)
		r, _ := reads(s)
		whole := s + r.finish()
		if _, _, e := Parse(whole); e != api.OK {
			t.Fatalf("%q: %d", whole, e)
		}
		agree(t, whole)
	}
}

func agree(t *testing.T, s string) {
	t.Helper()
	l, _, _ := lex.Cut(s)
	want := (&recogniser{}).place(l)
	if hasGreatCell(s) {
		if great := strings.Index(s, "into 256") + len("into "); want < 0 || great < want {
			want = great
		}
	}
	tree, at, e := Parse(s)
	if e == api.OK && (want >= 0 || at != 0 || !Right(tree)) || e != api.OK && (e != api.ErrToken || at != want || len(tree) != 0) {
		t.Fatalf("%q: %d %d, not at %d", s, at, e, want)
	}
}

// between: the tree of one number, sign, number and so on: the last of the weakest signs stands atop.
func between(signs []string) api.Expr {
	return betweenFrom(signs, 0)
}

func betweenFrom(signs []string, first int64) api.Expr {
	if len(signs) == 0 {
		return number(first)
	}
	top := 0
	for i, s := range signs {
		if rank, _ := Rank(s); rank <= rankOf(signs[top]) {
			top = i
		}
	}
	_, op := Rank(signs[top])
	return two(op, betweenFrom(signs[:top], first), betweenFrom(signs[top+1:], first+int64(top)+1))
}

func rankOf(sign string) int {
	rank, _ := Rank(sign)
	return rank
}

// P4.1, P4.2: how signs bind; all rows of up to three, and longer ones at random
func TestParseRanks(t *testing.T) {
	all := strings.Fields("| ^ & == != < <= > >= << >> + - * / %")
	look := func(signs ...string) {
		s := "emit 0"
		for i, x := range signs {
			s += x + strconv.Itoa(i+1)
		}
		if got, want := parses(t, s+";"), row(stmt(api.StmtEmit, between(signs))); told(got) != told(want) {
			t.Fatalf("%q: %s, not %s", s, told(got), told(want))
		}
	}
	for _, a := range all {
		look(a)
		for _, b := range all {
			look(a, b)
			for _, c := range all {
				look(a, b, c)
			}
		}
	}
	random := rand.New(rand.NewSource(6))
	for range 2000 {
		var signs []string
		for range 4 + random.Intn(30) {
			signs = append(signs, all[random.Intn(len(all))])
		}
		look(signs...)
	}
}

// P4.2
func TestRank(t *testing.T) {
	rows := []string{"|", "^", "&", "== !=", "< <= > >=", "<< >>", "+ -", "* / %"}
	ops := [][]api.Op{{api.OpOr}, {api.OpXor}, {api.OpAnd}, {api.OpEq, api.OpNe}, {api.OpLt, api.OpLe, api.OpGt, api.OpGe}, {api.OpShl, api.OpShr}, {api.OpAdd, api.OpSub}, {api.OpMul, api.OpDiv, api.OpRem}}
	for i, r := range rows {
		for j, sign := range strings.Fields(r) {
			if rank, op := Rank(sign); rank != i+1 || op != ops[i][j] {
				t.Error(sign, rank, op)
			}
		}
	}
	for _, s := range strings.Split("~,!,=,(,),[,],{,},;,min,max,m,x,1,,===,=<,=>,<>,&&,||,+-, +,+ ,**,<<<", ",") {
		if rank, op := Rank(s); rank != 0 || op != 0 {
			t.Errorf("%q: %d %d", s, rank, op)
		}
	}
	if rank, op := Rank(","); rank != 0 || op != 0 {
		t.Error(rank, op)
	}
}

// P4.5: what is parsed is Right, and so is one text behind another
func TestParseBehind(t *testing.T) {
	texts := []string{
		"", "stop;", "# a remark\n", "if (i) { stop; } else if (k) { }", "if (i) { }", "while (1) { var x = 1; }",
		"x = -m[i] << 1;", "emit min(1, 2) - 3;into 7 x;", "m[1] = 2; fail 3;", "if (a) { if (b) { } else { emit 1; } }",
	}
	for _, a := range texts {
		for _, b := range texts {
			l, k, both := parses(t, a), parses(t, b), parses(t, a+b)
			if told(both) != told(l)+told(k) || !Right(both) || !Right(l) {
				t.Errorf("%q behind %q: %s", b, a, told(both))
			}
		}
	}
	half := strings.Repeat("emit 1;", 150)
	if l := parses(t, half+half); len(l) != 300 || !Right(l) {
		t.Error(len(l))
	}
	fails(t, half+half+"stop;", 2100, api.ErrMany)
}

// P2, rule 5: an answer that is changed changes no other
func TestParseIsNew(t *testing.T) {
	const s = "if (a + 1) { m[1] = 2; } else { emit min(3, -x); }"
	first := parses(t, s)
	want := told(first)
	first[0].Args[0].Args[0].Name = "b"
	first[0].Body[0].Args[1].Num = 3
	first[0].Else[0].Args[0].Args[1].Args[0].Name = "y"
	first[0].Else = append(first[0].Else[:0], stmt(api.StmtStop))
	if got := told(parses(t, s)); got != want {
		t.Error(got)
	}
}
