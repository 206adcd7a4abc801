package gen

import (
	"math"
	"slices"
	"strconv"
	"strings"
	"testing"

	"outrider/api"
	"outrider/asm"
	"outrider/ins"
	"outrider/tree"
)

func parsed(t *testing.T, s string) []api.Stmt {
	t.Helper()
	l, at, e := tree.Parse(s)
	if e != api.OK {
		t.Fatalf("%q: %d %d", s, at, e)
	}
	return l
}

// compiled: what Compile answers; it leaves what it is handed, answers the same twice, and shares nothing. What is made may be, and is one more than the statements at least.
func compiled(t *testing.T, l []api.Stmt, cells int) ([]api.Ins, api.Errno) {
	t.Helper()
	was := tree.Copy(l)
	code, e := Compile(l, cells)
	kept := slices.Clone(code)
	clear(code)
	again, no := Compile(l, cells)
	if no != e || !slices.Equal(again, kept) {
		t.Fatalf("%v %d, and then %v %d", kept, e, again, no)
	}
	if !tree.Same(l, was) {
		t.Fatal("what was handed in is changed")
	}
	if e != api.OK {
		if len(kept) != 0 {
			t.Fatalf("%v beside the error %d", kept, e)
		}
		return nil, e
	}
	if at, no := ins.Check(kept, cells); no != api.OK {
		t.Fatalf("%v may not be: %d at %d", kept, no, at)
	}
	if len(kept) <= statements(l) {
		t.Fatalf("%d instructions of %d statements", len(kept), statements(l))
	}
	return kept, e
}

// statements: how many there are, with those within blocks.
func statements(l []api.Stmt) int {
	many := len(l)
	for _, s := range l {
		many += statements(s.Body) + statements(s.Else)
	}
	return many
}

// makes: the instructions of a text, as a listing in one line, without the halt at its end.
func makes(t *testing.T, s, want string) {
	t.Helper()
	code, e := compiled(t, parsed(t, s), 4)
	text, no := asm.Text(code, 4)
	if got := strings.Join(strings.FieldsFunc(text, func(r rune) bool { return r == '\n' }), "; "); e != api.OK || no != api.OK || got != strings.TrimPrefix(want+"; halt", "; ") {
		t.Errorf("%q: %d %d %s, not %s", s, e, no, got, want)
	}
}

func fails(t *testing.T, s string, want api.Errno) {
	t.Helper()
	if code, e := compiled(t, parsed(t, s), 4); e != want {
		t.Errorf("%q: %v %d, not %d", s, code, e, want)
	}
}

// P10.1: the chapter's examples
func TestExamples(t *testing.T) {
	makes(t, "var x = i + 1; m[x] = 2;", "const r11 1; add r3 r1 r11; const r11 2; store r11 r3 0")
	makes(t, "while (k) { k = k - 1; }", "l0:; zero r2 l4; const r11 1; sub r2 r2 r11; jump l0; l4:")
}

// P10.1: part by part, not by a listing
func TestParts(t *testing.T) {
	l := parsed(t, "m[i] = m[7]; into 2 -k; if (n) { x = 5 >> n; } else { fail i; }")
	l[2].Body[0].Name = "k"
	code, e := compiled(t, l, 3)
	want := []api.Ins{
		{Kind: api.InsConst, A: 11, K: 7},
		{Kind: api.InsLoad, A: 11, B: 11},
		{Kind: api.InsStore, A: 11, B: 1},
		{Kind: api.InsOne, Op: api.OpNeg, A: 11, B: 2},
		{Kind: api.InsInto, A: 11, C: 2},
		{Kind: api.InsZero, A: 0, K: 9},
		{Kind: api.InsConst, A: 11, K: 5},
		{Kind: api.InsTwo, Op: api.OpShr, A: 2, B: 11, C: 0},
		{Kind: api.InsJump, K: 10},
		{Kind: api.InsFail, A: 1},
		{Kind: api.InsHalt},
	}
	if e != api.OK || !slices.Equal(code, want) {
		t.Error(code, e)
	}
}

// P10.1: each kind of expression, each part of it a name or another one
func TestExpressions(t *testing.T) {
	for _, c := range [][2]string{
		{"n", "emit r0"}, {"i", "emit r1"}, {"k", "emit r2"},
		{"0", "const r11 0; emit r11"}, {"9223372036854775807", "const r11 9223372036854775807; emit r11"},
		{"m[i]", "load r11 r1 0; emit r11"}, {"m[3]", "const r11 3; load r11 r11 0; emit r11"}, {"m[m[k]]", "load r11 r2 0; load r11 r11 0; emit r11"}, {"m[i - k]", "sub r11 r1 r2; load r11 r11 0; emit r11"},
		{"-i", "neg r11 r1; emit r11"}, {"~k", "com r11 r2; emit r11"}, {"!n", "not r11 r0; emit r11"}, {"-5", "const r11 5; neg r11 r11; emit r11"}, {"!~-i", "neg r11 r1; com r11 r11; not r11 r11; emit r11"}, {"-m[i]", "load r11 r1 0; neg r11 r11; emit r11"},
		{"i + k", "add r11 r1 r2; emit r11"}, {"i + i", "add r11 r1 r1; emit r11"}, {"i + 1", "const r11 1; add r11 r1 r11; emit r11"}, {"1 + i", "const r11 1; add r11 r11 r1; emit r11"}, {"1 - 2", "const r11 1; const r12 2; sub r11 r11 r12; emit r11"},
		{"m[i] - m[k]", "load r11 r1 0; load r12 r2 0; sub r11 r11 r12; emit r11"}, {"-i - ~k", "neg r11 r1; com r12 r2; sub r11 r11 r12; emit r11"},
		{"i - k - n", "sub r11 r1 r2; sub r11 r11 r0; emit r11"}, {"i - (k - n)", "sub r11 r2 r0; sub r11 r1 r11; emit r11"}, {"(i - k) * (k - i)", "sub r11 r1 r2; sub r12 r2 r1; mul r11 r11 r12; emit r11"},
		{"i - (1 - (k - (2 - 3)))", "const r11 1; const r12 2; const r13 3; sub r12 r12 r13; sub r12 r2 r12; sub r11 r11 r12; sub r11 r1 r11; emit r11"},
		{"m[1 + m[2]] + m[3]", "const r11 1; const r12 2; load r12 r12 0; add r11 r11 r12; load r11 r11 0; const r12 3; load r12 r12 0; add r11 r11 r12; emit r11"},
		{"min(i, 4)", "const r11 4; min r11 r1 r11; emit r11"}, {"max(4, i)", "const r11 4; max r11 r11 r1; emit r11"}, {"min(max(i, k), max(k, n))", "max r11 r1 r2; max r12 r2 r0; min r11 r11 r12; emit r11"},
		{"i / k", "div r11 r1 r2; emit r11"}, {"i % k", "rem r11 r1 r2; emit r11"}, {"i & k", "and r11 r1 r2; emit r11"}, {"i | k", "or r11 r1 r2; emit r11"}, {"i ^ k", "xor r11 r1 r2; emit r11"}, {"i << k", "shl r11 r1 r2; emit r11"}, {"i >> k", "shr r11 r1 r2; emit r11"},
		{"i == k", "eq r11 r1 r2; emit r11"}, {"i != k", "ne r11 r1 r2; emit r11"}, {"i < k", "lt r11 r1 r2; emit r11"}, {"i <= k", "le r11 r1 r2; emit r11"}, {"i > k", "gt r11 r1 r2; emit r11"}, {"i >= k", "ge r11 r1 r2; emit r11"},
		{"1 / 0", "const r11 1; const r12 0; div r11 r11 r12; emit r11"},
	} {
		makes(t, "emit "+c[0]+";", c[1])
	}
}

// P10.1: each kind of statement
func TestStatements(t *testing.T) {
	for _, c := range [][2]string{
		{"", ""},
		{"stop;", "halt"}, {"stop; stop;", "halt; halt"},
		{"emit 1; emit i;", "const r11 1; emit r11; emit r1"},
		{"fail i;", "fail r1"}, {"fail 7; fail -i;", "const r11 7; fail r11; neg r11 r1; fail r11"},
		{"into 0 i; into 3 k;", "into r1 0; into r2 3"}, {"into 1 i + 2;", "const r11 2; add r11 r1 r11; into r11 1"},

		{"var x = k;", "move r3 r2"}, {"var x = 4;", "const r3 4"}, {"var x = -4;", "const r11 4; neg r3 r11"}, {"var x = m[i];", "load r3 r1 0"}, {"var x = m[9];", "const r11 9; load r3 r11 0"}, {"var x = i * k;", "mul r3 r1 r2"},
		{"var x = 1 - 2 - 3;", "const r11 1; const r12 2; sub r11 r11 r12; const r12 3; sub r3 r11 r12"},
		{"i = k;", "move r1 r2"}, {"i = i;", "move r1 r1"}, {"i = 4;", "const r1 4"}, {"n = !n;", "not r0 r0"}, {"k = m[k];", "load r2 r2 0"}, {"k = m[m[k]];", "load r11 r2 0; load r2 r11 0"}, {"i = i - k;", "sub r1 r1 r2"}, {"i = 1 - i;", "const r11 1; sub r1 r11 r1"},
		{"var x = 1; var y = x; x = y; y = x + y;", "const r3 1; move r4 r3; move r3 r4; add r4 r3 r4"},

		{"m[i] = k;", "store r2 r1 0"}, {"m[i] = 5;", "const r11 5; store r11 r1 0"}, {"m[5] = i;", "const r11 5; store r1 r11 0"}, {"m[5] = 6;", "const r11 5; const r12 6; store r12 r11 0"},
		{"m[i + 1] = m[i] + 1;", "const r11 1; add r11 r1 r11; load r12 r1 0; const r13 1; add r12 r12 r13; store r12 r11 0"}, {"m[m[0]] = -(i - m[k]);", "const r11 0; load r11 r11 0; load r12 r2 0; sub r12 r1 r12; neg r12 r12; store r12 r11 0"},
	} {
		makes(t, c[0], c[1])
	}
}

// P10.1: ifs and whiles, with tests that have instructions and that have none, with blocks that are empty
func TestBlocks(t *testing.T) {
	for _, c := range [][2]string{
		{"if (i) { }", "zero r1 l1; l1:"}, {"if (3) { }", "const r11 3; zero r11 l2; l2:"}, {"if (i - k) { stop; }", "sub r11 r1 r2; zero r11 l3; halt; l3:"},
		{"if (i) { emit k; emit n; } emit i;", "zero r1 l3; emit r2; emit r0; l3:; emit r1"},
		{"if (i) { } else { }", "zero r1 l1; l1:"}, {"if (i) { } else { stop; }", "zero r1 l2; jump l3; l2:; halt; l3:"}, {"if (i) { stop; } else { }", "zero r1 l2; halt; l2:"},
		{"if (i) { emit 1; } else { emit 2; } emit k;", "zero r1 l4; const r11 1; emit r11; jump l6; l4:; const r11 2; emit r11; l6:; emit r2"},
		{"if (m[i]) { emit i; } else { fail k; fail n; }", "load r11 r1 0; zero r11 l4; emit r1; jump l6; l4:; fail r2; fail r0; l6:"},
		{"if (i) { emit i; } else if (k) { emit k; } else { emit n; } stop;", "zero r1 l3; emit r1; jump l7; l3:; zero r2 l6; emit r2; jump l7; l6:; emit r0; l7:; halt"},
		{"if (i) { emit i; } else if (k) { emit k; }", "zero r1 l3; emit r1; jump l5; l3:; zero r2 l5; emit r2; l5:"},
		{"if (i) { if (k) { stop; } else { fail i; } } else { emit i; }", "zero r1 l6; zero r2 l4; halt; jump l5; l4:; fail r1; l5:; jump l7; l6:; emit r1; l7:"},

		{"while (i) { }", "l0:; zero r1 l2; jump l0; l2:"}, {"while (1) { }", "l0:; const r11 1; zero r11 l3; jump l0; l3:"}, {"while (i < k) { i = i + 1; } emit i;", "l0:; lt r11 r1 r2; zero r11 l5; const r11 1; add r1 r1 r11; jump l0; l5:; emit r1"},
		{"emit i; while (m[0]) { stop; }", "emit r1; l1:; const r11 0; load r11 r11 0; zero r11 l6; halt; jump l1; l6:"}, {"emit i; while (k) { stop; }", "emit r1; l1:; zero r2 l4; halt; jump l1; l4:"},
		{"while (i) { while (k) { emit n; } } while (n) { }", "l0:; zero r1 l5; l1:; zero r2 l4; emit r0; jump l1; l4:; jump l0; l5:; zero r0 l7; jump l5; l7:"},
		{"while (1) { if (i) { stop; } }", "l0:; const r11 1; zero r11 l5; zero r1 l4; halt; l4:; jump l0; l5:"}, {"if (i) { while (k) { } }", "zero r1 l3; l1:; zero r2 l3; jump l1; l3:"},
		{"if (i) { while (k) { } } else { while (2) { } }", "zero r1 l4; l1:; zero r2 l3; jump l1; l3:; jump l7; l4:; const r11 2; zero r11 l7; jump l4; l7:"},
		{"while (i) { if (k) { emit i; } else { emit k; } emit n; }", "l0:; zero r1 l7; zero r2 l4; emit r1; jump l5; l4:; emit r2; l5:; emit r0; jump l0; l7:"},
	} {
		makes(t, c[0], c[1])
	}
	twelve := strings.Repeat("if (i) { ", 12) + "stop;" + strings.Repeat(" }", 12)
	makes(t, twelve, strings.Repeat("zero r1 l13; ", 12)+"halt; l13:")
}

// P10.1: registers of names whose blocks have ended are those of others
func TestNames(t *testing.T) {
	makes(t, "if (i) { var x = 1; emit x; } else { var y = 2; emit y; } var z = 3; emit z;", "zero r1 l4; const r3 1; emit r3; jump l6; l4:; const r3 2; emit r3; l6:; const r3 3; emit r3")
	makes(t, "var a = 1; while (a) { var b = a; if (b) { var c = a; b = c; } var d = b; a = d; } var e = a;",
		"const r3 1; l1:; zero r3 l9; move r4 r3; zero r4 l6; move r5 r3; move r4 r5; l6:; move r5 r4; move r3 r5; jump l1; l9:; move r4 r3")
	makes(t, "var a=1; var b=2; var c=3; var d=4; var e=5; var f=6; var g=7; var h=8; h = h - a; m[h] = g; h = 9 - h;",
		"const r3 1; const r4 2; const r5 3; const r6 4; const r7 5; const r8 6; const r9 7; const r10 8; sub r10 r10 r3; store r9 r10 0; const r11 9; sub r10 r11 r10")
}

// sum: so many numbers, which are put together from the right, and what stands behind the last of them.
func sum(many int, last string) string {
	return strings.Repeat("1 + (", many) + last + strings.Repeat(")", many)
}

// P10.1: an expression that needs the register 15, and one that would need 16
func TestDeep(t *testing.T) {
	makes(t, "emit "+sum(4, "1")+";", "const r11 1; const r12 1; const r13 1; const r14 1; const r15 1; add r14 r14 r15; add r13 r13 r14; add r12 r12 r13; add r11 r11 r12; emit r11")
	makes(t, "var x = "+sum(4, "-m[i]")+";", "const r11 1; const r12 1; const r13 1; const r14 1; load r15 r1 0; neg r15 r15; add r14 r14 r15; add r13 r13 r14; add r12 r12 r13; add r3 r11 r12")
	for _, s := range []string{"", "emit 1; ", "if (i) { } ", "var x = i; "} {
		for _, c := range []struct {
			many int
			last string
			want api.Errno
		}{
			{3, "1 + i", api.OK}, {4, "i", api.OK}, {4, "1", api.OK}, {4, "i + k", api.OK}, {4, "1 + i", api.OK}, {4, "i + 1", api.OK}, {4, "m[m[1]]", api.OK}, {4, "-~!i", api.OK}, {4, "i + (k + (n + (i + 1)))", api.OK}, {5, "i", api.OK}, {5, "k", api.OK},
			{4, "1 + 1", api.ErrDeep}, {4, "m[1] + m[1]", api.ErrDeep}, {4, "1 + i + 1", api.ErrDeep}, {4, "i + (1 + (k + 1))", api.ErrDeep}, {4, "min(1, 2)", api.ErrDeep}, {4, "m[1 + 2]", api.ErrDeep}, {4, "-(1 + -i)", api.ErrDeep},
			{5, "1", api.ErrDeep}, {5, "m[i]", api.ErrDeep}, {5, "-i", api.ErrDeep}, {5, "i + k", api.ErrDeep}, {6, "i", api.ErrDeep}, {20, "i", api.ErrDeep}, {46, "i", api.ErrDeep},
		} {
			e := sum(c.many, c.last)
			for _, form := range []string{"emit @;", "fail @;", "into 2 @;", "i = @;", "var y = @;", "if (@) { }", "while (@) { stop; }", "m[@] = i;", "m[i] = @;", "emit i; if (k) { emit @; }", "if (k) { } else { emit @; }", "while (k) { if (i) { i = @; } }", "emit -(@);", "emit m[@];", "emit (@) + i;", "emit i + (@);", "emit (@) + 1;"} {
				text := s + strings.ReplaceAll(form, "@", e)
				if _, no := compiled(t, parsed(t, text), 4); no != c.want {
					t.Errorf("%q: %d, not %d", text, no, c.want)
				}
			}
		}
	}
	// the address of a store, if it isn't a name, has a register of the value's
	makes(t, "m[1] = "+sum(3, "1")+";", "const r11 1; const r12 1; const r13 1; const r14 1; const r15 1; add r14 r14 r15; add r13 r13 r14; add r12 r12 r13; store r12 r11 0")
	makes(t, "m[1] = "+sum(4, "k")+";", "const r11 1; const r12 1; const r13 1; const r14 1; const r15 1; add r15 r15 r2; add r14 r14 r15; add r13 r13 r14; add r12 r12 r13; store r12 r11 0")
	fails(t, "m[1] = "+sum(4, "1")+";", api.ErrDeep)
	fails(t, "m[m[i]] = "+sum(4, "-i")+";", api.ErrDeep)
	fails(t, "m[1] = "+sum(5, "i")+";", api.ErrDeep)
	fails(t, "m["+sum(5, "1")+"] = 1;", api.ErrDeep)
	// from the left, no matter how many
	if _, e := compiled(t, parsed(t, "emit 1"+strings.Repeat(" + 1", 47)+"; emit "+strings.Repeat("-", 47)+"1;"), 0); e != api.OK {
		t.Error(e)
	}
}

// P10.1: as many instructions as there may be, and one more
func TestLong(t *testing.T) {
	whiles := func(many int) string { return strings.Repeat("while (1) { }\n", many) }
	ifs := func(many int) string { return strings.Repeat("if (1) { stop; } else { stop; }\n", many) }
	for _, c := range []struct {
		s    string
		many int
	}{
		{"", 1}, {whiles(199) + "stop; stop;", 600}, {whiles(199) + "emit 1;", 600}, {"emit 1;" + whiles(199), 600}, {whiles(199) + "stop;", 599}, {whiles(199) + "i = k; k = i;", 600}, {ifs(119) + "emit 1; emit 1;", 600}, {ifs(119) + "stop; stop; while (i) { }", 600},
		{"while (i) {" + whiles(199) + "}", 600}, {"if (i) {" + whiles(198) + "} else { stop; stop; stop; }", 600}, {strings.Repeat("emit 1; ", 299) + "stop;", 600},
		{whiles(199) + "stop; stop; stop;", 601}, {whiles(199) + "emit 1; stop;", 601}, {whiles(200), 601}, {ifs(120), 601}, {"if (i) {" + whiles(199) + "stop; } stop;", 601}, {"while (i) {" + whiles(199) + "stop; }", 601}, {"if (i) {" + whiles(198) + "} else { stop; stop; stop; stop; }", 601}, {whiles(299), 898}, {ifs(149), 746}, {strings.Repeat("emit 1; ", 300), 601},
	} {
		code, e := compiled(t, parsed(t, c.s), 0)
		if c.many <= api.MaxCode && (e != api.OK || len(code) != c.many) || c.many > api.MaxCode && e != api.ErrLen {
			t.Errorf("%d instructions of %.40q: %d %d", c.many, c.s, len(code), e)
		}
	}
}

// P10.1: layer 6's errors
func TestUnknown(t *testing.T) {
	eight := ""
	for at := range 8 {
		eight += "var v" + strconv.Itoa(at) + " = 1; "
	}
	for _, c := range []struct {
		s     string
		cells int
		want  api.Errno
	}{
		{"x = 1;", 0, api.ErrUnknown}, {"emit x;", 0, api.ErrUnknown}, {"var x = x;", 0, api.ErrUnknown}, {"stop; emit x;", 0, api.ErrUnknown}, {"if (1) { var x = 1; } emit x;", 0, api.ErrUnknown}, {"if (i) { } else { m[x] = 1; }", 0, api.ErrUnknown}, {"while (x) { }", 0, api.ErrUnknown},
		{"var i = 1;", 0, api.ErrTwice}, {"var x = 1; if (i) { var x = 1; }", 0, api.ErrTwice}, {eight, 0, api.OK}, {eight + "var x = 1;", 0, api.ErrVars}, {eight + "while (i) { var x = 1; }", 0, api.ErrVars},
		{"into 0 i;", 0, api.ErrCell}, {"into 0 i;", -1, api.ErrCell}, {"into 0 i;", math.MinInt, api.ErrCell}, {"into 0 i;", 1, api.OK}, {"into 1 i;", 1, api.ErrCell}, {"into 3 i;", 4, api.OK}, {"into 3 i;", 5, api.OK}, {"into 3 i;", math.MaxInt, api.OK}, {"into 4 i;", 4, api.ErrCell}, {"into 4 i;", 5, api.ErrCell}, {"into 4 i;", math.MaxInt, api.ErrCell}, {"into 255 i;", 4, api.ErrCell},
		{"into 1 i; emit x;", 1, api.ErrCell}, {"emit x; into 1 i;", 1, api.ErrUnknown}, {"into 1 x;", 1, api.ErrUnknown}, {"var i = 1; emit x;", 0, api.ErrTwice},
	} {
		if code, e := compiled(t, parsed(t, c.s), c.cells); e != c.want {
			t.Errorf("%q with %d: %v %d, not %d", c.s, c.cells, code, e, c.want)
		}
	}
}

// P10.1, P1: the error that is named first, wherever it stands
func TestErrorsInOrder(t *testing.T) {
	long := parsed(t, strings.Repeat("while (1) { } ", 200))
	deep := parsed(t, "emit "+sum(5, "1")+";")
	unknown := parsed(t, "emit x;")
	cell := parsed(t, "into 2 1;")
	wrong := []api.Stmt{{}}
	for set := range 32 {
		var all [][]api.Stmt
		want := api.OK
		for at, c := range []struct {
			l    []api.Stmt
			want api.Errno
		}{{long, api.ErrLen}, {deep, api.ErrDeep}, {unknown, api.ErrUnknown}, {cell, api.ErrCell}, {wrong, api.ErrTree}} {
			if set&(1<<at) == 0 {
				continue
			}
			all = append(all, c.l)
			if c.want != api.ErrCell || want != api.ErrUnknown {
				want = c.want
			}
		}
		if code, e := compiled(t, slices.Concat(all...), 2); e != want {
			t.Errorf("%d: %v %d, not %d", set, code, e, want)
		}
		if set&12 == 12 {
			continue // of layer 6's errors the first one counts, and that is the other one now
		}
		slices.Reverse(all)
		if code, e := compiled(t, slices.Concat(all...), 2); e != want {
			t.Errorf("%d from behind: %v %d, not %d", set, code, e, want)
		}
	}
}

// P10.1, P1: statements that aren't right
func TestWrong(t *testing.T) {
	x := api.Expr{Kind: api.ExprName, Name: "i"}
	one := []api.Expr{x}
	rows := [][]api.Stmt{{{}}, {{Kind: -1}}, {{Kind: 10}}, {{Kind: math.MaxInt, Cell: math.MaxInt}}, {{Kind: math.MinInt}}, {{Kind: api.StmtStop}, {}}, make([]api.Stmt, 100000)}
	for kind := api.StmtVar; kind <= api.StmtStop; kind++ {
		for _, args := range [][]api.Expr{{x, x, x}, {{}}, {{Kind: 6}}, {{Kind: -1, Args: one}}, {{Kind: api.ExprNum, Num: -1}}, {{Kind: api.ExprName}}, {{Kind: api.ExprName, Name: "if"}}, {{Kind: api.ExprName, Name: "i", Num: 1}}, {{Kind: api.ExprMem}}, {{Kind: api.ExprMem, Num: 1, Args: one}}, {{Kind: api.ExprMem, Op: api.OpAdd, Args: one}}, {{Kind: api.ExprOne, Op: api.OpAdd, Args: one}}, {{Kind: api.ExprTwo, Op: api.OpAdd, Args: one}}, {{Kind: api.ExprTwo, Op: api.OpNot, Args: []api.Expr{x, x}}}, {{Kind: api.ExprTwo, Op: 99, Args: []api.Expr{x, x}}}} {
			rows = append(rows, []api.Stmt{{Kind: kind, Args: args}}, []api.Stmt{{Kind: kind, Name: "i", Args: args}})
		}
		rows = append(rows, []api.Stmt{{Kind: kind, Name: "if", Args: one}}, []api.Stmt{{Kind: kind, Name: "i", Cell: 5, Args: one}}, []api.Stmt{{Kind: kind, Cell: -1, Args: one}}, []api.Stmt{{Kind: kind, Cell: 256, Args: one}}, []api.Stmt{{Kind: api.StmtIf, Args: one, Body: []api.Stmt{{Kind: kind, Cell: 7}}}})
	}
	deep, blocks := x, []api.Stmt{{Kind: api.StmtStop}}
	for range 60000 {
		deep = api.Expr{Kind: api.ExprMem, Args: []api.Expr{deep}}
		blocks = []api.Stmt{{Kind: api.StmtWhile, Args: one, Body: blocks}}
	}
	rows = append(rows, []api.Stmt{{Kind: api.StmtEmit, Args: []api.Expr{deep}}}, blocks, slices.Repeat([]api.Stmt{{Kind: api.StmtStop}}, 601))
	for _, l := range rows {
		for _, cells := range []int{-1, 0, 4} {
			if code, e := compiled(t, l, cells); e != api.ErrTree {
				t.Errorf("%d statements, the first of kind %d: %v %d", len(l), l[0].Kind, code, e)
			}
		}
	}
	ring := []api.Stmt{{Kind: api.StmtWhile, Args: one}}
	ring[0].Body = ring
	if code, e := Compile(ring, 4); e != api.ErrTree || len(code) != 0 {
		t.Error(code, e)
	}
}

// P10.1: no statements at all, and lists that are nil or empty
func TestNone(t *testing.T) {
	for _, l := range [][]api.Stmt{nil, {}, make([]api.Stmt, 3)[:0]} {
		if code, e := compiled(t, l, 0); e != api.OK || !slices.Equal(code, []api.Ins{{Kind: api.InsHalt}}) {
			t.Error(code, e)
		}
	}
	i := []api.Expr{{Kind: api.ExprName, Name: "i", Args: []api.Expr{}}}
	for _, none := range [][]api.Stmt{nil, {}} {
		l := []api.Stmt{{Kind: api.StmtIf, Args: i, Body: none, Else: none}, {Kind: api.StmtWhile, Args: i, Body: none, Else: none}}
		want := []api.Ins{{Kind: api.InsZero, A: 1, K: 1}, {Kind: api.InsZero, A: 1, K: 3}, {Kind: api.InsJump, K: 1}, {Kind: api.InsHalt}}
		if code, e := compiled(t, l, 0); e != api.OK || !slices.Equal(code, want) {
			t.Error(code, e)
		}
	}
}

// Rule 5: nothing behind a list's length is read or changed
func TestBehind(t *testing.T) {
	args := []api.Expr{{Kind: api.ExprNum, Num: 1}, {Kind: api.ExprName, Name: "i"}, {Kind: api.ExprName, Name: "unknown"}}
	body := []api.Stmt{{Kind: api.StmtStore, Args: args[:2]}, {Kind: api.StmtSet, Name: "unknown"}}
	l := []api.Stmt{{Kind: api.StmtIf, Args: args[1:2], Body: body[:1], Else: body[:0]}, {Kind: api.StmtEmit, Args: args[1:2]}, body[1]}
	code, e := compiled(t, l[:2], 0)
	want := []api.Ins{{Kind: api.InsZero, A: 1, K: 3}, {Kind: api.InsConst, A: 11, K: 1}, {Kind: api.InsStore, A: 1, B: 11}, {Kind: api.InsEmit, A: 1}, {Kind: api.InsHalt}}
	if e != api.OK || !slices.Equal(code, want) {
		t.Error(code, e)
	}
	if args[2].Name != "unknown" || body[1].Name != "unknown" || len(body[1].Args) != 0 || l[2].Name != "unknown" {
		t.Error("changed")
	}
}
