package asm

import (
	"math/rand"
	"regexp"
	"slices"
	"strconv"
	"strings"
	"testing"

	"outrider/api"
	"outrider/ins"
)

func parses(t *testing.T, s string, want ...api.Ins) {
	t.Helper()
	if l, at, e := Parse(s, 4); e != api.OK || at != 0 || !slices.Equal(l, want) {
		t.Errorf("Parse(%q) = %v, %d, %d; not %v", s, l, at, e, want)
	}
}

func fails(t *testing.T, s string, line int, want api.Errno) {
	t.Helper()
	if l, at, e := Parse(s, 4); len(l) != 0 || at != line || e != want {
		t.Errorf("Parse(%q) = %v, %d, %d; not %d, %d", s, l, at, e, line, want)
	}
}

func halt() api.Ins { return api.Ins{Kind: api.InsHalt} }

// P9.3: each word, and the chapter's examples
func TestParse(t *testing.T) {
	for _, c := range rows() {
		parses(t, c.line+"\nl1: \nhalt", c.x, halt())
	}
	parses(t, "const r3 5\nl1:\nemit r3\nother r3 l1\nhalt", api.Ins{Kind: api.InsConst, A: 3, K: 5}, api.Ins{Kind: api.InsEmit, A: 3}, api.Ins{Kind: api.InsOther, A: 3, K: 1}, halt())
	fails(t, "add r1 r2", 1, api.ErrLine)
	fails(t, "x:\nx:", 2, api.ErrLabel)
	fails(t, "x:\nx:\nhalt", 2, api.ErrLabel)
	fails(t, "jump y\nhalt", 1, api.ErrLabel)
}

// P9.3: remarks, blanks, and lines that say nothing
func TestParseBlanks(t *testing.T) {
	emit := api.Ins{Kind: api.InsEmit, A: 3}
	for _, s := range []string{
		"emit r3\nhalt", "emit r3\nhalt\n", "\n\nemit r3\n\nhalt\n\n", " \t\r emit \t\r r3 \t\r \n\thalt\r", "emit\tr3\nhalt\t", "emit\rr3\r\nhalt\r\n", "\r\n \r\nemit r3\r\n\t\nhalt",
		"# a remark\nemit r3 # another\nhalt", "emit r3#\nhalt#emit r4", "#\nemit r3\n##\n # x\nhalt\n#", "emit r3 # halt # halt\n halt", "emit r3\n# jump nowhere\nhalt\n# x:\n# x:", "emit r3\n#\x00\xff\nhalt",
		"x: # x:\nemit r3\ny:#\nhalt", "\tx:\r\nemit r3\n z: \nhalt",
	} {
		parses(t, s, emit, halt())
	}
	for _, s := range []string{"", "\n", "#", " ", "\t\r ", "# halt", "x:", "x:\n# halt\ny:"} {
		fails(t, s, 0, api.ErrLen)
	}
	for _, s := range []string{"emit\vr3", "emit\fr3", "emit\u00a0r3", "emit\x85r3", "emit\u2003r3", "emit\x00r3", "emit r3\x00", "\vhalt", "halt\x0b", "\ufeffhalt", "halt\x80", "emit;r3", "emit,r3", "emit r3;", "// halt", "; halt"} {
		fails(t, s+"\nhalt", 1, api.ErrLine)
	}
}

// P9.3: lines that are none
func TestParseNoLine(t *testing.T) {
	for _, s := range []string{
		"halt r1", "halt 0", "halt halt", "Halt", "HALT", "hal", "halts", "nop", "r1", "0", "const", "const r1", "const 1 2", "const r1 r2", "const r1 2 3", "const r1 l1", "move r1", "move r1 2", "move r1 r2 r3", "move 1 r2",
		"neg r1", "neg r1 r2 r3", "neg r1 2", "com 1 r2", "not r1", "add r1 r2", "add r1 r2 r3 r4", "add r1 r2 3", "max r1", "min r1 2 r3", "shr 1 r2 r3", "load r1 r2", "load r1 r2 r3", "load r1 2 3", "store r1 r2", "store r1 r2 3 4", "store 1 r2 3",
		"into r1", "into r1 r2", "into 1 2", "into 1 r2", "into r1 2 3", "emit", "emit 1", "emit r1 r2", "fail", "fail 1", "fail r1 1", "jump", "jump r1 x", "jump x y", "zero r1", "zero x", "zero x r1", "zero r1 x y", "other r1", "other 1 x",
		"emitr1", "emit r 1", "emit rr1", "emit R1", "emit r", "emit r-1", "emit r+1", "emit r01", "emit r00", "emit r1x", "emit r0x1", "emit r1.", "emit r-0", "emit r١",
		"x", "x :", "x: halt", "x: y:", "halt x:", ":", "::", "x::", ":x", "X:", "x_:", "1:", "1x:", "x-y:", "é:", "xX:", "x: :", "abcdefghijklm:", "jump abcdefghijklm", "jump 1", "jump X", "jump x:", "jump :", "jump x_", "jump -1", "zero r1 0", "zero r1 r_", "other r1 L1",
	} {
		fails(t, s, 1, api.ErrLine)
		fails(t, "x:\nhalt\n\n"+s+"\nhalt", 4, api.ErrLine)
	}
}

// P9.3: numbers are those that layer 1 writes; of registers and reductions from 0 to 255
func TestParseNumbers(t *testing.T) {
	for _, s := range []string{"00", "01", "-0", "-01", "+1", "1e3", "0x1", "1_0", "-", "--1", "1-", "9223372036854775808", "-9223372036854775809", "99999999999999999999999", "1.0", "a", "١"} {
		fails(t, "const r1 "+s+"\nhalt", 1, api.ErrLine)
		fails(t, "load r1 r2 "+s+"\nhalt", 1, api.ErrLine)
		fails(t, "store r1 r2 "+s+"\nhalt", 1, api.ErrLine)
		fails(t, "into r1 "+s+"\nhalt", 1, api.ErrLine)
		fails(t, "emit r"+s+"\nhalt", 1, api.ErrLine)
	}
	for _, k := range []int64{-1 << 63, -1<<63 + 1, -256, -1, 0, 1, 10, 255, 256, 1<<63 - 1} {
		parses(t, "const r1 "+strconv.FormatInt(k, 10)+"\nhalt", api.Ins{Kind: api.InsConst, A: 1, K: k}, halt())
	}
	for _, s := range []string{"256", "257", "271", "1000", "4294967297", "18446744073709551617", "-1", "-255", "9223372036854775807"} {
		for _, line := range []string{"emit r", "into r1 ", "const r", "move r1 r", "not r1 r", "add r1 r2 r", "load r1 r"} {
			tail := map[string]string{"const r": " 1", "load r1 r": " 1"}[line]
			fails(t, line+s+tail+"\nhalt", 1, api.ErrLine)
		}
	}
	for _, s := range []string{"16", "17", "100", "254", "255"} {
		for _, line := range []string{"emit r", "const r", "move r1 r", "not r1 r", "add r1 r2 r", "add r1 r2 r", "load r1 r"} {
			tail := map[string]string{"const r": " 1", "load r1 r": " 1"}[line]
			fails(t, line+s+tail+"\nhalt", 1, api.ErrReg)
		}
		fails(t, "into r1 "+s+"\nhalt", 1, api.ErrCell)
	}
	parses(t, "emit r0\nemit r15\ninto r15 3\nhalt", api.Ins{Kind: api.InsEmit}, api.Ins{Kind: api.InsEmit, A: 15}, api.Ins{Kind: api.InsInto, A: 15, C: 3}, halt())
}

// P9.3: labels
func TestParseLabels(t *testing.T) {
	jump := func(k int64) api.Ins { return api.Ins{Kind: api.InsJump, K: k} }
	parses(t, "x:\njump x", jump(0))
	parses(t, "jump x\nx:\nhalt", jump(1), halt())
	parses(t, "a:\nb:\njump b\nc:\njump a\njump c", jump(0), jump(0), jump(1))
	parses(t, "jump abcdefghijkl\nabcdefghijkl:\nhalt", jump(1), halt())
	parses(t, "jump halt\nhalt:\nhalt", jump(1), halt())
	parses(t, "r1:\nzero r1 r1\nhalt", api.Ins{Kind: api.InsZero, A: 1}, halt())
	parses(t, "l5:\nl0:\nhalt\njump l5", halt(), jump(0))
	parses(t, "halt\nx:", halt()) // a label behind the last instruction, to which nothing goes
	parses(t, "x1:\nhalt\nx:\nx2:", halt())
	fails(t, "jump x\nx:", 1, api.ErrTarget)
	fails(t, "halt\n\nzero r1 x\nhalt\n\nx:\n", 3, api.ErrTarget)
	fails(t, "a:\nhalt\nb:\nhalt\na:", 5, api.ErrLabel)
	fails(t, "abcdefghijkl:\nabcdefghijkl: # again\nhalt", 2, api.ErrLabel)
	fails(t, "halt\njump a\njump b", 2, api.ErrLabel)
	fails(t, "a:\njump a\nother r1 b\njump c", 3, api.ErrLabel)
	fails(t, "jump abcdefghijkl\nabcdefghijk:\nhalt", 1, api.ErrLabel)
	fails(t, "jump l1\nhalt", 1, api.ErrLabel) // a place alone is no label
	fails(t, "jump x # x:\nhalt", 1, api.ErrLabel)
}

// P9.3: which error comes first
func TestParseOrder(t *testing.T) {
	fails(t, "x:\nx:\nnone", 2, api.ErrLabel)
	fails(t, "x:\nnone\nx:", 2, api.ErrLine)
	fails(t, "jump y\nnone", 2, api.ErrLine)
	fails(t, "jump y\nx:\nx:", 3, api.ErrLabel)
	fails(t, "emit r16\njump y", 2, api.ErrLabel)
	fails(t, "emit r16\nnone", 2, api.ErrLine)
	fails(t, "emit r255\n\ninto r255 255\nhalt", 1, api.ErrReg)
	fails(t, "# one\nx:\n\nemit r15\n\nmove r1 r16\nemit r99\nhalt", 6, api.ErrReg)
	fails(t, "# one\n\ninto r1 4\nhalt", 3, api.ErrCell)
	fails(t, "emit r1\n\n\nemit r2\n\n", 4, api.ErrFall)
	fails(t, "halt\nx:\nzero r1 x\ny:\n", 3, api.ErrFall)
	fails(t, "emit r99\nnone x"+strings.Repeat(" ", api.MaxText), 0, api.ErrLong)
	fails(t, strings.Repeat("halt\n", 601), 0, api.ErrLen)
	fails(t, strings.Repeat("halt\n", 601)+"jump x", 602, api.ErrLabel)
	fails(t, "emit r99\n"+strings.Repeat("halt\n", 600), 0, api.ErrLen)
	if l, at, e := Parse(strings.Repeat("halt\n", 600), 0); len(l) != 600 || at != 0 || e != api.OK {
		t.Errorf("of 600: %d, %d, %d", len(l), at, e)
	}
}

// P9.3: how many reductions there are is layer 8's to say
func TestParseCells(t *testing.T) {
	for cells := -2; cells <= 7; cells++ {
		for c := range 6 {
			l, at, e := Parse("\ninto r1 "+strconv.Itoa(c)+"\nhalt", cells)
			if c < min(cells, 4) {
				if len(l) != 2 || l[0].C != c || at != 0 || e != api.OK {
					t.Errorf("into %d of %d: %v, %d, %d", c, cells, l, at, e)
				}
			} else if len(l) != 0 || at != 2 || e != api.ErrCell {
				t.Errorf("into %d of %d: %v, %d, %d", c, cells, l, at, e)
			}
		}
	}
}

// P9.3: MaxText bytes, and one more
func TestParseLong(t *testing.T) {
	parses(t, "halt"+strings.Repeat(" ", api.MaxText-4), halt())
	parses(t, "halt#"+strings.Repeat("x", api.MaxText-5), halt())
	parses(t, strings.Repeat("\n", api.MaxText-4)+"halt", halt())
	fails(t, strings.Repeat("\n", api.MaxText-4)+"none", api.MaxText-3, api.ErrLine)
	fails(t, "halt"+strings.Repeat(" ", api.MaxText-3), 0, api.ErrLong)
	fails(t, "halt#"+strings.Repeat("x", api.MaxText-4), 0, api.ErrLong)
	fails(t, strings.Repeat("\n", api.MaxText-3)+"halt", 0, api.ErrLong)
	fails(t, strings.Repeat("\xff", api.MaxText), 1, api.ErrLine)
	fails(t, strings.Repeat("\xff", 10*api.MaxText), 0, api.ErrLong)
}

const (
	regForm    = `r(0|[1-9][0-9]?|1[0-9][0-9]|2[0-4][0-9]|25[0-5])`
	cellForm   = `(0|[1-9][0-9]?|1[0-9][0-9]|2[0-4][0-9]|25[0-5])`
	numberForm = `(0|-?[1-9][0-9]{0,18})`
	labelForm  = `([a-z][a-z0-9]{0,11})`
)

// forms: what the lines look like, by patterns: a second way of reading them.
type forms struct {
	lines                 map[string]*regexp.Regexp
	label, remark, blanks *regexp.Regexp
}

func newForms() forms {
	m := map[string]*regexp.Regexp{}
	for _, c := range rows() {
		p := "^" + c.word
		for _, letter := range c.parts {
			p += " " + map[rune]string{'a': regForm, 'b': regForm, 'c': regForm, 'r': cellForm, 'k': numberForm, 'l': labelForm}[letter]
		}
		m[c.word] = regexp.MustCompile(p + "$")
	}
	return forms{m, regexp.MustCompile("^" + labelForm + ":$"), regexp.MustCompile("(?s)#.*"), regexp.MustCompile("[ \t\r]+")}
}

// again: Parse, done in a second way.
func again(s string, cells int, m forms) ([]api.Ins, int, api.Errno) {
	lines := strings.Split(s, "\n")
	places, many := map[string]int{}, 0
	var code []api.Ins
	var names []string
	var at []int
	for i, line := range lines {
		line = m.remark.ReplaceAllString(line, "")
		line = strings.Trim(m.blanks.ReplaceAllString(line, " "), " ")
		if line == "" {
			continue
		}
		if f := m.label.FindStringSubmatch(line); f != nil {
			if _, is := places[f[1]]; is {
				return nil, i + 1, api.ErrLabel
			}
			places[f[1]] = many
			continue
		}
		word, _, _ := strings.Cut(line, " ")
		if m.lines[word] == nil || !m.lines[word].MatchString(line) {
			return nil, i + 1, api.ErrLine
		}
		x, name := filled(word, m.lines[word].FindStringSubmatch(line)[1:])
		code, names, at, many = append(code, x), append(names, name), append(at, i+1), many+1
	}
	for i, name := range names {
		if _, is := places[name]; name != "" && !is {
			return nil, at[i], api.ErrLabel
		}
		if name != "" {
			code[i].K = int64(places[name])
		}
	}
	place, e := ins.Check(code, cells)
	if e == api.ErrLen {
		return nil, 0, e
	}
	if e != api.OK {
		return nil, at[place], e
	}
	return code, 0, api.OK
}

func filled(word string, parts []string) (api.Ins, string) {
	var x api.Ins
	name := ""
	for _, c := range rows() {
		if c.word != word {
			continue
		}
		x = api.Ins{Kind: c.x.Kind, Op: c.x.Op}
		for i, letter := range c.parts {
			n, _ := strconv.ParseInt(parts[i], 10, 64)
			switch letter {
			case 'a':
				x.A = int(n)
			case 'b':
				x.B = int(n)
			case 'c', 'r':
				x.C = int(n)
			case 'k':
				x.K = n
			case 'l':
				name = parts[i]
			}
		}
	}
	return x, name
}

// anyLine: a line at random, most often one that can stand there.
func anyLine(r *rand.Rand) string {
	all := rows()
	label := func() string { return string(rune('a' + r.Intn(6))) }
	if r.Intn(5) == 0 {
		return label() + ":"
	}
	c := all[r.Intn(len(all))]
	pieces := []string{c.word}
	for _, letter := range c.parts {
		if r.Intn(60) == 0 {
			letter = rune("abcrklabc"[r.Intn(9)])
		}
		switch letter {
		case 'a', 'b', 'c':
			pieces = append(pieces, "r"+strconv.Itoa(r.Intn(16)+r.Intn(50)/49*(r.Intn(300)-5)))
		case 'r':
			pieces = append(pieces, strconv.Itoa(r.Intn(4)+r.Intn(20)/19*(r.Intn(300)-5)))
		case 'k':
			pieces = append(pieces, strconv.FormatInt(r.Int63()>>r.Intn(63)-r.Int63()>>r.Intn(63), 10))
		case 'l':
			pieces = append(pieces, label())
		}
	}
	if r.Intn(60) == 0 {
		pieces = append(pieces, "r1")
	}
	if r.Intn(60) == 0 {
		pieces = pieces[:len(pieces)-1]
	}
	return strings.Join(pieces, []string{" ", "\t", " \r", "  "}[r.Intn(4)])
}

// P9.3, P9.4: listings at random, held against the second way; and what is parsed, written and parsed again, is the same
func TestParseTwice(t *testing.T) {
	r, m := rand.New(rand.NewSource(7)), newForms()
	seen := map[api.Errno]int{}
	for range 20000 {
		lines := make([]string, r.Intn(7))
		for i := range lines {
			lines[i] = anyLine(r)
		}
		if r.Intn(3) > 0 {
			lines = append(lines, "a:", "halt")
		}
		if r.Intn(4) == 0 { // a label with no instruction behind it
			lines = append(lines, "f:")
		}
		s, cells := strings.Join(lines, "\n"), r.Intn(7)-1
		l, at, e := Parse(s, cells)
		if want, place, no := again(s, cells, m); !slices.Equal(l, want) || at != place || e != no {
			t.Fatalf("Parse(%q, %d) = %v, %d, %d; not %v, %d, %d", s, cells, l, at, e, want, place, no)
		}
		seen[e]++
		if e == api.OK {
			written, no := Text(l, cells)
			back, at, e := Parse(written, cells)
			if no != api.OK || at != 0 || e != api.OK || !ins.Same(l, back) {
				t.Fatalf("%q is written as %q, which is parsed as %v", s, written, back)
			}
		}
		padded(t, r, lines, cells)
	}
	for _, e := range []api.Errno{api.OK, api.ErrLine, api.ErrLabel, api.ErrLen, api.ErrReg, api.ErrCell, api.ErrTarget, api.ErrFall} {
		if seen[e] < 100 {
			t.Errorf("only %d of %d", seen[e], e)
		}
	}
}

// padded: empty lines and remarks change nothing but the numbers of lines.
func padded(t *testing.T, r *rand.Rand, lines []string, cells int) {
	t.Helper()
	var more []string
	moved := []int{0} // where each line went
	for _, line := range lines {
		for r.Intn(3) == 0 {
			more = append(more, []string{"", " \t", "# halt", "\r", "#"}[r.Intn(5)])
		}
		more = append(more, line+[]string{"", " # halt", "#x:", "\r"}[r.Intn(4)])
		moved = append(moved, len(more))
	}
	s, wide := strings.Join(lines, "\n"), strings.Join(more, "\n")
	l, at, e := Parse(s, cells)
	if back, place, no := Parse(wide, cells); !slices.Equal(back, l) || place != moved[at] || no != e {
		t.Fatalf("Parse(%q) = %v, %d, %d; Parse(%q) = %v, %d, %d", s, l, at, e, wide, back, place, no)
	}
}
