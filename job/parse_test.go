package job

import (
	"slices"
	"strings"
	"testing"

	"outrider/api"
)

// read: what Parse answers: the same twice, in new memory. What is parsed may be, and what is parsed and written is parsed as the same (P17.7).
func read(t *testing.T, s string) (api.Job, int, api.Errno) {
	t.Helper()
	j, line, e := Parse(s)
	if e != api.OK {
		if !alike(j, api.Job{}) {
			t.Fatalf("%q: %v beside the error %d", s, j, e)
		}
		return j, line, e
	}
	if no := Valid(j); no != api.OK || line != 0 {
		t.Fatalf("%q: %v may not be: %d; line %d", s, j, no, line)
	}
	kept := deep(j)
	clear(j.Cells)
	clear(j.Reds)
	for _, code := range j.Codes {
		clear(code)
	}
	clear(j.Codes)
	if again, _, no := Parse(s); no != api.OK || !alike(again, kept) {
		t.Fatalf("%q: %v, and then %v %d", s, kept, again, no)
	}
	text, no := Text(kept)
	if no == api.ErrLong {
		return kept, line, e
	}
	if again, _, no := Parse(text); no != api.OK || !Same(again, kept) {
		t.Fatalf("%q: %q: %v %d", s, text, again, no)
	}
	return kept, line, e
}

func reads(t *testing.T, s string, want api.Job) {
	t.Helper()
	if j, line, e := read(t, s); e != api.OK || !alike(j, want) {
		t.Errorf("%q: %v %d %d, not %v", s, j, line, e, want)
	}
}

func refuses(t *testing.T, s string, line int, no api.Errno) {
	t.Helper()
	if _, at, e := read(t, s); at != line || e != no {
		t.Errorf("%q: line %d, %d, not %d, %d", s, at, e, line, no)
	}
}

func lines(l ...string) string { return strings.Join(l, "\n") }

// whole: lines of a text that is parsed, of each kind one or two.
func whole() []string {
	return []string{"words 4", "cell 1 -2", "cell 0 5", "red max 7", "red sum -1", "fuel 50", "pipe 3 2", "code {", "into r1 1", "halt", "}", "task {", "m[i] = i;", "}"}
}

func wholeJob() api.Job {
	return api.Job{
		Words: 4, Cells: []api.Cell{{At: 1, Value: -2}, {At: 0, Value: 5}}, Reds: []api.Red{{Op: api.RedMax, Init: 7}, {Op: api.RedSum, Init: -1}},
		Fuel: 50, Shape: api.Shape{Kind: api.ShapePipe, Items: 3, Stages: 2},
		Codes: [][]api.Ins{{{Kind: api.InsInto, A: 1, C: 1}, {Kind: api.InsHalt}}, {{Kind: api.InsStore, A: 1, B: 1}, {Kind: api.InsHalt}}},
	}
}

// P17.5: the chapter's examples, and a text with all there can be
func TestParse(t *testing.T) {
	squares := api.Job{Words: 4, Fuel: 50, Shape: api.Shape{Kind: api.ShapeFor, Hi: 4, Step: 1},
		Codes: [][]api.Ins{{{Kind: api.InsTwo, Op: api.OpMul, A: 11, B: 1, C: 1}, {Kind: api.InsStore, A: 11, B: 1}, {Kind: api.InsHalt}}}}
	reads(t, lines("words 4", "fuel 50", "for 0 4 1", "task {", "m[i] = i * i;", "}"), squares)
	refuses(t, "fuel 50", 1, api.ErrJob)
	reads(t, lines(whole()...), wholeJob())
	reads(t, lines(whole()...)+"\n", wholeJob())
	for i, word := range []string{"sum", "prod", "min", "max", "and", "or", "xor"} {
		j := wholeJob()
		j.Reds[0].Op = api.RedOp(i + 1)
		reads(t, strings.Replace(lines(whole()...), "max", word, 1), j)
	}
}

// P17.5: blanks of all three kinds, remarks, and lines that say nothing, outside of the brackets
func TestBlanksAndRemarks(t *testing.T) {
	for _, blank := range []string{" ", "\t", "\r", "  ", "\t \r", " \r\t "} {
		spaced := whole()
		for i, s := range spaced {
			if i < 8 || i == 11 {
				spaced[i] = blank + strings.ReplaceAll(s, " ", blank) + blank
			}
		}
		reads(t, lines(spaced...), wholeJob())
		reads(t, lines(spaced...)+"\n"+blank+"\n", wholeJob())
	}
	for _, remark := range []string{"#", "# a remark", "#words 4", " # } code {", "\t##", "#\x00\xff\r"} {
		told := whole()
		for i, s := range told {
			if i < 8 || i == 11 {
				told[i] = s + remark
			}
		}
		reads(t, lines(told...), wholeJob())
		for at := range 15 {
			if at > 7 && at < 11 || at == 12 || at == 13 {
				continue
			}
			reads(t, lines(slices.Insert(whole(), at, remark)...), wholeJob())
			reads(t, lines(slices.Insert(whole(), at, "", remark, " ", "\t\r")...), wholeJob())
		}
	}
	// what a remark cuts off is missing; other bytes are no blanks
	refuses(t, lines("words # 4", "fuel 50", "for 0 4 1"), 1, api.ErrJob)
	refuses(t, lines("words 4", "fuel #50", "for 0 4 1"), 2, api.ErrJob)
	refuses(t, lines("words 4", "#fuel 50", "for 0 4 1"), 3, api.ErrJob)
	refuses(t, lines("words 4", "fuel 50", "for 0 4 1", "code # {", "halt", "}"), 4, api.ErrJob)
	for _, other := range []string{"", "\v", "\f", "\x00", "\u00a0", "\u2003", "\xff", ",", "_"} {
		refuses(t, lines("words"+other+"4", "fuel 50", "for 0 4 1"), 1, api.ErrJob)
		refuses(t, lines("words 4", "fuel 50", "for 0 4 1", "code"+other+"{", "halt", "}"), 4, api.ErrJob)
		if other != "" {
			refuses(t, lines("words 4", "fuel 50"+other, "for 0 4 1"), 2, api.ErrJob)
			refuses(t, lines(whole()...)+"\n"+other, 15, api.ErrJob)
		}
	}
}

// P17.5: each line missing
func TestMissingLines(t *testing.T) {
	for i, want := range []struct {
		line int
		no   api.Errno
	}{
		{1, api.ErrJob}, {0, api.OK}, {0, api.OK}, {7, api.ErrCell}, {7, api.ErrCell}, {6, api.ErrJob}, {7, api.ErrJob},
		{8, api.ErrJob}, {0, api.OK}, {8, api.ErrFall}, {8, api.ErrLine}, {12, api.ErrJob}, {0, api.OK}, {12, api.ErrJob},
	} {
		s := lines(slices.Delete(whole(), i, i+1)...)
		refuses(t, s, want.line, want.no)
		if j, _, e := read(t, s); e == api.OK && Same(j, wholeJob()) {
			t.Errorf("without line %d the job is the same", i)
		}
	}
}

// P17.5: each line doubled
func TestDoubledLines(t *testing.T) {
	for i, want := range []struct {
		line int
		no   api.Errno
	}{
		{2, api.ErrJob}, {0, api.ErrTwice}, {0, api.ErrTwice}, {0, api.OK}, {0, api.OK}, {7, api.ErrJob}, {8, api.ErrJob},
		{8, api.ErrLine}, {0, api.OK}, {0, api.OK}, {12, api.ErrJob}, {12, api.ErrToken}, {0, api.OK}, {15, api.ErrJob},
	} {
		s := lines(slices.Insert(whole(), i, whole()[i])...)
		refuses(t, s, want.line, want.no)
		if j, _, e := read(t, s); e == api.OK && Same(j, wholeJob()) {
			t.Errorf("with line %d twice the job is the same", i)
		}
	}
}

// P17.5: lines in the wrong place
func TestMisplacedLines(t *testing.T) {
	for _, c := range []struct {
		l    []string
		line int
	}{
		{[]string{"cell 1 2", "words 4", "fuel 50", "for 0 4 1"}, 1},
		{[]string{"red sum 2", "words 4", "fuel 50", "for 0 4 1"}, 1},
		{[]string{"words 4", "red sum 2", "cell 1 2", "fuel 50", "for 0 4 1"}, 3},
		{[]string{"words 4", "fuel 50", "cell 1 2", "for 0 4 1"}, 3},
		{[]string{"words 4", "fuel 50", "red sum 2", "for 0 4 1"}, 3},
		{[]string{"words 4", "for 0 4 1", "fuel 50"}, 2},
		{[]string{"words 4", "pipe 4 1", "fuel 50"}, 2},
		{[]string{"words 4", "fuel 50", "code {", "halt", "}", "for 0 4 1"}, 3},
		{[]string{"words 4", "fuel 50", "for 0 4 1", "pipe 4 1"}, 4},
		{[]string{"words 4", "fuel 50", "pipe 4 1", "for 0 4 1"}, 4},
		{[]string{"words 4", "fuel 50", "for 0 4 1", "words 4"}, 4},
		{[]string{"words 4", "fuel 50", "for 0 4 1", "cell 1 2"}, 4},
		{[]string{"words 4", "fuel 50", "for 0 4 1", "red sum 2"}, 4},
		{[]string{"words 4", "fuel 50", "for 0 4 1", "fuel 50"}, 4},
		{[]string{"words 4", "fuel 50", "for 0 4 1", "}"}, 4},
		{[]string{"words 4", "fuel 50", "for 0 4 1", "{", "halt", "}"}, 4},
		{[]string{"words 4", "fuel 50", "for 0 4 1", "halt"}, 4},
		{[]string{"words 4", "fuel 50", "for 0 4 1", "code {", "halt", "}", "fuel 50"}, 7},
		{[]string{"words 4", "fuel 50", "for 0 4 1", "code {", "halt", "}", "}"}, 7},
		{[]string{"words 4", "fuel 50", "for 0 4 1", "code {", "halt", "}", "", " # x", "x"}, 9},
		{[]string{"words 4", "{", "}"}, 2},
		{[]string{"", "", "x"}, 3},
		{[]string{"x", "words 4"}, 1},
	} {
		refuses(t, lines(c.l...), c.line, api.ErrJob)
		refuses(t, lines(c.l...)+"\n", c.line, api.ErrJob)
	}
}

// P17.5: lines with a piece too few or too many, or another one
func TestPieces(t *testing.T) {
	for i, s := range whole() {
		if i > 7 && i != 11 {
			continue
		}
		all := strings.Fields(s)
		for k := range all {
			for _, other := range [][]string{{}, {all[k], all[k]}, {all[k], "0"}, {"x"}, {strings.ToUpper(all[k]) + "_"}, {all[k] + ":"}} {
				l := whole()
				l[i] = strings.Join(slices.Replace(strings.Fields(s), k, k+1, other...), " ")
				refuses(t, lines(l...), i+1, api.ErrJob)
			}
		}
	}
	for _, word := range []string{"add", "product", "SUM", "1", "Sum", "not", "sum,", "sub"} {
		refuses(t, lines("words 4", "red "+word+" 1", "fuel 50", "for 0 4 1"), 2, api.ErrJob)
	}
	for _, s := range []string{"for 0 4", "for 0 4 1 1", "for", "for 0", "pipe 0", "pipe", "pipe 1 1 1", "while 0 4 1", "FOR 0 4 1", "for 0 4 x"} {
		refuses(t, lines("words 4", "fuel 50", s, "code {", "halt", "}"), 3, api.ErrJob)
	}
	for _, s := range []string{"code", "code {}", "code { halt }", "code { {", "code }", "{ code", "task", "task { }", "task [", "Code {", "tasks {", "code{", "code { }"} {
		refuses(t, lines("words 4", "fuel 50", "for 0 4 1", s, "halt", "}"), 4, api.ErrJob)
	}
}

// P17.5: a text that ends ahead of each line, and within a code
func TestTooEarly(t *testing.T) {
	for many, want := range []struct {
		line int
		no   api.Errno
	}{
		{1, api.ErrJob}, {1, api.ErrJob}, {2, api.ErrJob}, {3, api.ErrJob}, {4, api.ErrJob}, {5, api.ErrJob}, {6, api.ErrJob},
		{0, api.ErrCodes}, {8, api.ErrJob}, {8, api.ErrJob}, {8, api.ErrJob}, {0, api.ErrCodes}, {12, api.ErrJob}, {12, api.ErrJob}, {0, api.OK},
	} {
		s := lines(whole()[:many]...)
		refuses(t, s, want.line, want.no)
		if many == 0 {
			continue
		}
		// a byte 10 at the end has an empty line behind it: the last one then
		for i, end := range []string{"\n", "\n\n", "\n# x\n \n"} {
			line := want.line
			if many < 7 {
				line += []int{1, 2, 3}[i]
			}
			refuses(t, s+end, line, want.no)
		}
	}
	refuses(t, "", 1, api.ErrJob)
	refuses(t, "\n", 2, api.ErrJob)
	refuses(t, "\n\n", 3, api.ErrJob)
	refuses(t, "#", 1, api.ErrJob)
	refuses(t, " \n# words 4\n\t", 3, api.ErrJob)
}

func inLoop(l ...string) string {
	return lines(append([]string{"words 4", "red sum 0", "fuel 50", "for 0 4 1"}, l...)...)
}

// P17.5: a bracket that isn't shut, and what doesn't shut it
func TestClosing(t *testing.T) {
	for _, word := range []string{"code", "task"} {
		body, broken := "halt", api.ErrLine
		if word == "task" {
			body, broken = "stop;", api.ErrToken
		}
		refuses(t, inLoop(word+" {"), 5, api.ErrJob)
		refuses(t, inLoop(word+" {", ""), 5, api.ErrJob)
		refuses(t, inLoop("", "# x", word+" {", body), 7, api.ErrJob)
		refuses(t, inLoop(word+" {", body, ""), 5, api.ErrJob)
		for _, s := range []string{" }", "} ", "\t}", "}\t", "}\r", "\r}", "} # x", "}#", "}}", "};", "]", "x }"} {
			refuses(t, inLoop(word+" {", body, s), 5, api.ErrJob)
			refuses(t, inLoop(word+" {", body, s, ""), 5, api.ErrJob)
			if s != "]" {
				refuses(t, inLoop(word+" {", body, s, "}"), 5, broken)
			} else if _, line, e := read(t, inLoop(word+" {", body, s, "}")); line != 5 || e == api.OK || e == api.ErrJob {
				t.Error(word, line, e)
			}
		}
		// one that isn't there is told ahead of what stands within
		refuses(t, inLoop(word+" {", "??"), 5, api.ErrJob)
		// the first line that is } alone shuts
		refuses(t, inLoop(word+" {", body, "}", "}"), 8, api.ErrJob)
		refuses(t, inLoop(word+" {", body, "}", body), 8, api.ErrJob)
		refuses(t, inLoop(word+" {", body, "}", word+" {"), 8, api.ErrJob)
	}
	refuses(t, inLoop("task {", "if (i) {", "stop;", "}", "}"), 5, api.ErrToken)
	j, _, e := read(t, inLoop("task {", "if (i) {", "stop;", " }", "}"))
	if e != api.OK || len(j.Codes) != 1 || len(j.Codes[0]) != 3 {
		t.Error(j, e)
	}
}

// P17.5: between the brackets blanks and remarks are the listing's, or the source text's
func TestWithinBrackets(t *testing.T) {
	want := [][]api.Ins{{{Kind: api.InsEmit, A: 1}, {Kind: api.InsHalt}}}
	for _, l := range [][]string{
		{"code {", "emit r1", "halt", "}"},
		{"code {", "emit r1 # } task {", "# }", "#}", "halt#", "}"},
		{"code {", "", "\temit\rr1 ", "", "halt", "", "}"},
		{"code { # in here", "emit r1", "halt", "}", "# out there"},
		{"task {", "emit i;", "}"},
		{"task {", "emit # } code {", "#}", "\ti", "\r;", "}", ""},
		{"task {", "emit (", "i", ");", "}"},
		{"\ttask\r{#", "", "emit i;#", "", "}", " "},
	} {
		if j, line, e := read(t, inLoop(l...)); e != api.OK || !alike(api.Job{Codes: j.Codes}, api.Job{Codes: want}) {
			t.Error(l, j, line, e)
		}
	}
	// labels are each listing's own
	jumps := []string{"code {", "x: # here", "jump x", "}"}
	if j, line, e := read(t, lines("words 4", "fuel 50", "pipe 1 2", lines(jumps...), lines(jumps...))); e != api.OK || len(j.Codes) != 2 || !slices.Equal(j.Codes[0], j.Codes[1]) {
		t.Error(j, line, e)
	}
	if j, line, e := read(t, inLoop("task {", "}")); e != api.OK || len(j.Codes) != 1 || !slices.Equal(j.Codes[0], halts()) {
		t.Error(j, line, e)
	}
}

// P17.5: a code and a task, mixed, one too few and one too many
func TestMixed(t *testing.T) {
	code, task := "code {\nhalt\n}", "task {\nstop;\n}"
	for _, l := range [][]string{{code, code, code}, {task, code, task}, {code, task, task}, {task, task, task}, {code, "", task, " # x", code}} {
		j, line, e := read(t, lines("words 4", "fuel 50", "pipe 9 3", lines(l...)))
		if e != api.OK || len(j.Codes) != 3 {
			t.Error(l, line, e)
		}
		refuses(t, lines("words 4", "fuel 50", "pipe 9 4", lines(l...)), 0, api.ErrCodes)
		refuses(t, lines("words 4", "fuel 50", "pipe 9 2", lines(l...)), 0, api.ErrCodes)
		refuses(t, lines("words 4", "fuel 50", "for 1 9 2", lines(l...)), 0, api.ErrCodes)
	}
	refuses(t, lines("words 4", "fuel 50", "for 1 9 2"), 0, api.ErrCodes)
	refuses(t, lines("words 4", "fuel 50", "for 1 9 2", code, task), 0, api.ErrCodes)
}

// P17.5: the errors of listings and of source texts, at the line of the bracket, whatever line of theirs it is
func TestErrorsWithin(t *testing.T) {
	for _, c := range []struct {
		text string
		no   api.Errno
	}{
		{"code {\nhalt\nadd r1 r2\n}", api.ErrLine},
		{"code {\nx:\nx:\nhalt\n}", api.ErrLabel},
		{"code {\njump y\nhalt\n}", api.ErrLabel},
		{"code {\n}", api.ErrLen},
		{"code {\n# halt\n\n}", api.ErrLen},
		{"code {\n" + strings.Repeat("halt\n", 601) + "}", api.ErrLen},
		{"code {\nemit r16\nhalt\n}", api.ErrReg},
		{"code {\ninto r1 1\nhalt\n}", api.ErrCell},
		{"code {\nemit r1\n}", api.ErrFall},
		{"code {\njump x\nx:\n}", api.ErrTarget},
		{"task {\nx = 1;\n}", api.ErrUnknown},
		{"task {\n\n\nemit 1\n}", api.ErrToken},
		{"task {\nemit ?;\n}", api.ErrByte},
		{"task {\nemit 01;\n}", api.ErrNum},
		{"task {\nemit abcdefghijklm;\n}", api.ErrName},
		{"task {\nemit " + strings.Repeat("(", 49) + "\n}", api.ErrNest},
		{"task {\n" + strings.Repeat("stop;", 601) + "\n}", api.ErrMany},
		{"task {\nvar x = 1;\nvar x = 2;\n}", api.ErrTwice},
		{"task {\nvar i = 1;\n}", api.ErrTwice},
		{"task {\ninto 1 i;\n}", api.ErrCell},
		{"task {\nemit 1+(1+(1+(1+(1+1))));\n}", api.ErrDeep},
		{"task {\nhalt\n}", api.ErrToken},
	} {
		refuses(t, inLoop(c.text), 5, c.no)
		refuses(t, inLoop("# x", "", c.text, "x"), 7, c.no)
		refuses(t, inLoop("code {", "halt", "}", c.text), 8, c.no)
		refuses(t, inLoop(c.text, "task {", "?", "}"), 5, c.no)
	}
	// as many reductions as were told ahead, no more than there may be
	for many := range 7 {
		for cell := range 7 {
			head := lines("words 4", strings.Repeat("red sum 0\n", many)+"fuel 50", "for 0 4 1", "")
			for _, body := range []string{"code {\ninto r1 @\nhalt\n}", "task {\ninto @ i;\n}"} {
				j, line, e := read(t, head+strings.Replace(body, "@", string(rune('0'+cell)), 1))
				switch {
				case cell >= many:
					if e != api.ErrCell || line != many+4 {
						t.Error(many, cell, line, e)
					}
				case many > 4:
					if !(e == api.ErrReds && line == 0 || e == api.ErrCell && line == many+4 && cell >= 4) {
						t.Error(many, cell, line, e)
					}
				case e != api.OK || j.Codes[0][0].C != cell:
					t.Error(many, cell, line, e)
				}
			}
		}
	}
}

// P17.5: which of two errors is told first: the text's length, its lines from the first on, then Valid's in its own order
func TestWhichParseErrorIsFirst(t *testing.T) {
	code := "code {\nhalt\n}"
	refuses(t, lines("words 0", "fuel 0", "for 0 4 0", code, "x"), 7, api.ErrJob)
	refuses(t, lines("words 0", "fuel 0", "for 0 4 0", "code {", "}"), 4, api.ErrLen)
	refuses(t, lines("words 0", "cell 9 9", "fuel 0", "for 0 4 0", code), 0, api.ErrWords)
	refuses(t, lines("words 4", "cell 9 9", "cell 1 1", "cell 1 1", "fuel 0", "for 0 4 0", code), 0, api.ErrAddr)
	refuses(t, lines("words 4", "cell 1 1", "cell 1 1", "red sum 0", "red sum 0", "red sum 0", "red sum 0", "red sum 0", "fuel 0", "for 0 4 0", code), 0, api.ErrTwice)
	refuses(t, lines("words 4", "red sum 0", "red sum 0", "red sum 0", "red sum 0", "red sum 0", "fuel 0", "for 0 4 0", code), 0, api.ErrReds)
	refuses(t, lines("words 4", "fuel 0", "for 0 4 0", code), 0, api.ErrFuel)
	refuses(t, lines("words 4", "fuel 4001", "for 0 4 0"), 0, api.ErrFuel)
	refuses(t, lines("words 4", "fuel 4000", "for 0 4 0"), 0, api.ErrStep)
	refuses(t, lines("words 4", "fuel 4000", "for 0 201 1"), 0, api.ErrTasks)
	refuses(t, lines("words 4", "fuel 4000", "pipe 1 7"), 0, api.ErrShape)
	refuses(t, lines("words 4", "fuel 4000", "for 0 200 1"), 0, api.ErrCodes)
	refuses(t, lines("words x", "fuel x"), 1, api.ErrJob)
	refuses(t, lines("words 4", "fuel x", "for x"), 2, api.ErrJob)
}

// P17.5: a text of just MaxText bytes, and one more
func TestParseOfLongTexts(t *testing.T) {
	s := lines(whole()...) + "\n#"
	s += strings.Repeat("x", api.MaxText-len(s))
	reads(t, s, wholeJob())
	refuses(t, s+"x", 0, api.ErrLong)
	refuses(t, s+"\n", 0, api.ErrLong)
	refuses(t, strings.Repeat("\n", api.MaxText), api.MaxText+1, api.ErrJob)
	refuses(t, strings.Repeat("\n", api.MaxText+1), 0, api.ErrLong)
	refuses(t, strings.Repeat("x", api.MaxText), 1, api.ErrJob)
	refuses(t, strings.Repeat("x", api.MaxText+1), 0, api.ErrLong)
	refuses(t, strings.Repeat(" ", 100000), 0, api.ErrLong)
}

// P17.5: numbers where a count is wanted, and where a word is
func TestNumbers(t *testing.T) {
	for _, c := range []struct {
		line   int // of whole, from 1 on
		form   string
		counts []api.Errno // of 0, of 2^31, and of those that count as -1; none, where a word is wanted
	}{
		{1, "words @", []api.Errno{api.ErrWords, api.ErrWords, api.ErrWords}},
		{2, "cell @ 7", []api.Errno{api.ErrTwice, api.ErrAddr, api.ErrAddr}},
		{6, "fuel @", []api.Errno{api.ErrFuel, api.ErrFuel, api.ErrFuel}},
		{7, "pipe @ 2", []api.Errno{api.OK, api.ErrTasks, api.ErrShape}},
		{7, "pipe 2 @", []api.Errno{api.ErrShape, api.ErrShape, api.ErrShape}},
		{2, "cell 1 @", nil}, {4, "red max @", nil},
	} {
		with := func(n string) string {
			l := whole()
			l[c.line-1] = strings.Replace(c.form, "@", n, 1)
			return lines(l...)
		}
		for n, count := range map[string]int{"0": 0, "2147483648": 1, "-1": 2, "-2": 2, "2147483649": 2, "4294967296": 2, "4294967298": 2, "9223372036854775807": 2, "-9223372036854775808": 2, "-4294967294": 2} {
			want := api.OK
			if c.counts != nil {
				want = c.counts[count]
			}
			refuses(t, with(n), 0, want)
		}
		for _, n := range []string{"00", "01", "-0", "+0", "+1", "-01", "--1", "-", "1-", "0x1", "1_0", "1.0", "1e0", "x", "9223372036854775808", "-9223372036854775809", "18446744073709551616", "18446744073709551620", "100000000000000000000000000000004"} {
			refuses(t, with(n), c.line, api.ErrJob)
		}
	}
	for place := range 3 {
		for n, want := range map[string]int64{"0": 0, "-1": -1, "2147483648": 1 << 31, "2147483649": 1<<31 + 1, "9223372036854775807": 1<<63 - 1, "-9223372036854775808": -1 << 63} {
			said := []string{"5", "5", "5"}
			said[place] = n
			s := lines("words 4", "fuel 50", "for "+strings.Join(said, " "), "code {", "halt", "}")
			j, line, e := read(t, s)
			got := []int64{j.Shape.Lo, j.Shape.Hi, j.Shape.Step}[place]
			if line != 0 || e == api.ErrJob || e == api.OK && got != want {
				t.Error(s, j.Shape, line, e)
			}
		}
		for _, n := range []string{"00", "-0", "+1", "x", "9223372036854775808", "-9223372036854775809"} {
			said := []string{"5", "5", "5"}
			said[place] = n
			refuses(t, lines("words 4", "fuel 50", "for "+strings.Join(said, " "), "code {", "halt", "}"), 3, api.ErrJob)
		}
	}
	reads(t, strings.Replace(lines(whole()...), "words 4", "words 64", 1), func() api.Job { j := wholeJob(); j.Words = 64; return j }())
	refuses(t, strings.Replace(lines(whole()...), "words 4", "words 65", 1), 0, api.ErrWords)
}
