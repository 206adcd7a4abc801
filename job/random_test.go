package job

import (
	"math"
	"math/rand"
	"regexp"
	"slices"
	"strconv"
	"strings"
	"sync"
	"testing"

	"outrider/api"
	"outrider/asm"
	"outrider/gen"
	"outrider/ins"
	"outrider/tree"
)

// sight: a second way of reading a job's text: each line is held against forms, and each form follows some others.
type sight struct {
	j     api.Job
	stage int // how far the lines have come: 0 nothing, 1 words, 2 cell, 3 red, 4 fuel, 5 the shape and codes
}

// forms: of the lines; made once, since that takes long.
var forms = sync.OnceValue(func() []*regexp.Regexp {
	var l []*regexp.Regexp
	for _, s := range []string{"words N", "cell N N", "red (sum|prod|min|max|and|or|xor) N", "fuel N", "for N N N", "pipe N N", "(code|task) [{]"} {
		l = append(l, regexp.MustCompile("^[ \t\r]*"+strings.ReplaceAll(strings.ReplaceAll(s, " ", "[ \t\r]+"), "N", "(0|-?[1-9][0-9]*)")+"[ \t\r]*$"))
	}
	return l
})

// little: a count, or -1.
func little(n int64) int {
	if n != int64(uint32(n)) || n > 1<<31 {
		return -1
	}
	return int(n)
}

// takes: false, if the line can't stand there.
func (x *sight) takes(form int, said []string) bool {
	follows := [][]int{{0}, {1, 2}, {1, 2, 3}, {1, 2, 3}, {4}, {4}, {5}}[form]
	if !slices.Contains(follows, x.stage) {
		return false
	}
	var n []int64
	for _, s := range said {
		v, err := strconv.ParseInt(s, 10, 64)
		if err != nil && s[0] <= '9' {
			return false
		}
		n = append(n, v)
	}
	x.stage = []int{1, 2, 3, 4, 5, 5, 5}[form]
	switch form {
	case 0:
		x.j.Words = little(n[0])
	case 1:
		x.j.Cells = append(x.j.Cells, api.Cell{At: little(n[0]), Value: n[1]})
	case 2:
		op := strings.Index("...sum prodmin max and or  xor", said[0]) / 4
		x.j.Reds = append(x.j.Reds, api.Red{Op: api.RedOp(op + 1), Init: n[1]})
	case 3:
		x.j.Fuel = little(n[0])
	case 4:
		x.j.Shape = api.Shape{Kind: api.ShapeFor, Lo: n[0], Hi: n[1], Step: n[2]}
	case 5:
		x.j.Shape = api.Shape{Kind: api.ShapePipe, Items: little(n[0]), Stages: little(n[1])}
	}
	return true
}

func (x *sight) code(word, body string) (e api.Errno) {
	var code []api.Ins
	if word == "code" {
		code, _, e = asm.Parse(body, len(x.j.Reds))
	} else {
		var l []api.Stmt
		if l, _, e = tree.Parse(body); e == api.OK {
			code, e = gen.Compile(l, len(x.j.Reds))
		}
	}
	x.j.Codes = append(x.j.Codes, code)
	return e
}

func seen(s string) (api.Job, int, api.Errno) {
	if len(s) > 8192 {
		return api.Job{}, 0, api.ErrLong
	}
	x := &sight{}
	all := strings.Split(s, "\n")
	inside, word, body := 0, "", ""
	for i, line := range all {
		if inside > 0 {
			if line == "}" {
				if e := x.code(word, body); e != api.OK {
					return api.Job{}, inside, e
				}
				inside = 0
			}
			body += line + "\n"
			continue
		}
		line, _, _ = strings.Cut(line, "#")
		if strings.Trim(line, " \t\r") == "" {
			continue
		}
		form := slices.IndexFunc(forms(), func(r *regexp.Regexp) bool { return r.MatchString(line) })
		if form < 0 {
			return api.Job{}, i + 1, api.ErrJob
		}
		said := forms()[form].FindStringSubmatch(line)[1:]
		if !x.takes(form, said) {
			return api.Job{}, i + 1, api.ErrJob
		}
		if form == 6 {
			inside, word, body = i+1, said[0], ""
		}
	}
	if inside > 0 {
		return api.Job{}, inside, api.ErrJob
	}
	if x.stage < 5 {
		return api.Job{}, len(all), api.ErrJob
	}
	if e := Valid(x.j); e != api.OK {
		return api.Job{}, 0, e
	}
	return x.j, 0, api.OK
}

// takes, above, finds an operation's place by where it stands in a row of texts of four bytes.
func TestSight(t *testing.T) {
	for i, word := range []string{"sum", "prod", "min", "max", "and", "or", "xor"} {
		j, _, e := seen("words 1\nred " + word + " 1\nfuel 1\nfor 0 0 1\ncode {\nhalt\n}")
		if e != api.OK || j.Reds[0].Op != api.RedOp(i+1) {
			t.Error(word, j, e)
		}
	}
}

func sameSight(t *testing.T, s string) api.Errno {
	t.Helper()
	want, at, no := seen(s)
	j, line, e := read(t, s)
	if !alike(j, want) || line != at || e != no {
		t.Fatalf("%q: %v line %d, %d, not %v %d, %d", s, j, line, e, want, at, no)
	}
	return e
}

// P17.5: each line at each place, two lines swapped, each two lines missing, each beginning and each end of a text, and each byte gone, doubled, or another one
func TestAllNear(t *testing.T) {
	l := whole()
	for i := range l {
		for k := range l {
			moved := slices.Insert(slices.Delete(whole(), i, i+1), min(k, len(l)-1), l[i])
			sameSight(t, lines(moved...))
			sameSight(t, lines(slices.Insert(whole(), k, l[i])...))
			swapped := whole()
			swapped[i], swapped[k] = swapped[k], swapped[i]
			sameSight(t, lines(swapped...))
			if i < k {
				sameSight(t, lines(slices.Delete(whole(), i, k)...))
				sameSight(t, lines(slices.Delete(slices.Delete(whole(), k, k+1), i, i+1)...))
			}
		}
	}
	s := lines(l...)
	for at := range s {
		sameSight(t, s[:at])
		sameSight(t, s[at:])
		sameSight(t, s[:at]+s[at+1:])
		sameSight(t, s[:at]+s[at:at+1]+s[at:])
		for _, b := range []string{"\n", " ", "\t", "\r", "#", "}", "{", "0", "-", "x", "\x00", "\xff", "\n}\n", "\ncode {\n", "\ntask {\n"} {
			sameSight(t, s[:at]+b+s[at:])
			sameSight(t, s[:at]+b+s[at+1:])
		}
	}
}

// teller makes jobs, and texts of them, at random.
type teller struct{ *rand.Rand }

func (m teller) word() int64 {
	switch m.Intn(4) {
	case 0:
		return int64(m.Uint64())
	case 1:
		return []int64{math.MinInt64, math.MaxInt64, 0, -1, 1 << 31, 1<<31 + 1}[m.Intn(6)]
	}
	return int64(m.Intn(20) - 10)
}

func (m teller) code(cells int) []api.Ins {
	long := 1 + m.Intn(12)
	var l []api.Ins
	for range long {
		x := api.Ins{}
		for at := -1; at != 0; {
			x = api.Ins{Kind: api.InsKind(1 + m.Intn(13))}
			switch x.Kind {
			case api.InsOne:
				x.Op = api.OpNeg + api.Op(m.Intn(3))
			case api.InsTwo:
				x.Op = api.OpAdd + api.Op(m.Intn(18))
			}
			_, parts := asm.Word(x)
			for _, part := range parts {
				switch part {
				case 'a':
					x.A = m.Intn(16)
				case 'b':
					x.B = m.Intn(16)
				case 'c':
					x.C = m.Intn(16)
				case 'r':
					x.C = m.Intn(cells + 1)
				case 'k':
					x.K = m.word()
				case 'l':
					x.K = int64(m.Intn(long))
				}
			}
			if ins.One(x, cells, long) == api.OK {
				at = 0
			}
		}
		l = append(l, x)
	}
	l[long-1] = api.Ins{Kind: api.InsHalt}
	return l
}

func (m teller) job() api.Job {
	j := api.Job{Words: 1 + m.Intn(64), Fuel: 1 + m.Intn(4000)}
	for _, at := range m.Perm(j.Words)[:m.Intn(min(j.Words, 6)+1)] {
		j.Cells = append(j.Cells, api.Cell{At: at, Value: m.word()})
	}
	for range m.Intn(5) {
		j.Reds = append(j.Reds, api.Red{Op: api.RedOp(1 + m.Intn(7)), Init: m.word()})
	}
	stages := 1
	if m.Intn(2) == 0 {
		lo, step := int64(m.Intn(2000)-1000), int64(m.Intn(9)-4)
		if step == 0 {
			step = math.MinInt64
		}
		j.Shape = api.Shape{Kind: api.ShapeFor, Lo: lo, Hi: lo + int64(m.Intn(200)-100), Step: step}
	} else {
		stages = 1 + m.Intn(6)
		j.Shape = api.Shape{Kind: api.ShapePipe, Items: m.Intn(200/stages + 1), Stages: stages}
	}
	for range stages {
		j.Codes = append(j.Codes, m.code(len(j.Reds)))
	}
	return j
}

// around: the text with blanks and remarks, which say nothing.
func (m teller) around(s string) string {
	l := strings.Split(s, "\n")
	var told []string
	for _, line := range l {
		if line == "}" {
			told = append(told, line)
			continue
		}
		for m.Intn(5) == 0 {
			told = append(told, []string{"", " ", "# x", "\t\r#}", "\r"}[m.Intn(5)])
		}
		gaps := []string{" ", "\t", "\r", "  ", " \t"}
		gap := gaps[m.Intn(len(gaps))]
		line = strings.ReplaceAll(line, " ", gap)
		if m.Intn(3) == 0 {
			line = gap + line + gap
		}
		if m.Intn(4) == 0 {
			line += "#" + gap + "code {"
		}
		told = append(told, line)
	}
	return strings.Join(told, "\n")
}

// P17.7: jobs at random, written, parsed, and parsed with blanks and remarks in their texts
func TestRandomJobs(t *testing.T) {
	for round := range 3000 {
		m := teller{rand.New(rand.NewSource(int64(round)))}
		j := m.job()
		if e := valid(t, j); e != api.OK {
			t.Fatal(j, e)
		}
		s, e := written(t, j)
		if e != api.OK {
			t.Fatal(j, e)
		}
		if told := m.around(s); len(told) <= api.MaxText {
			reads(t, told, j)
		}
		other := m.job()
		if !Same(j, Copy(j)) || Same(j, other) != alike(j, other) {
			t.Fatal(j, other)
		}
	}
}

// P17.5: texts at random, with faults in their lines and bytes, held against the second way
func TestRandomTexts(t *testing.T) {
	errors := map[api.Errno]int{}
	others := []string{"words 4", "words 0", "cell 0 1", "cell 70 1", "red or 3", "red x 3", "fuel 9", "fuel 0", "for 0 3 1", "for 0 0 0", "pipe 1 2", "pipe 500 2", "pipe 1 7", "pipe 1 0", "code {", "task {", "}", " }", "halt", "m[i] = 1;", "emit 1", "", "# x", "x"}
	for round := range 20000 {
		m := teller{rand.New(rand.NewSource(int64(round)))}
		s, _ := Text(m.job())
		l := strings.Split(m.around(s), "\n")
		for range m.Intn(3) {
			at := m.Intn(len(l))
			switch m.Intn(5) {
			case 0:
				l[at] = others[m.Intn(len(others))]
			case 1:
				l = slices.Insert(l, at, others[m.Intn(len(others))])
			case 2:
				l = slices.Delete(l, at, at+1)
			case 3:
				said := strings.Fields(l[at] + " x")
				k := m.Intn(len(said))
				said[k] = []string{"", "0", "-1", strconv.FormatInt(m.word(), 10), "01", "9223372036854775808"}[m.Intn(6)]
				l[at] = strings.Join(said[:len(said)-m.Intn(2)], " ")
			case 4:
				other := m.Intn(len(l))
				l[at], l[other] = l[other], l[at]
			}
			if len(l) == 0 {
				l = []string{""}
			}
		}
		errors[sameSight(t, strings.Join(l, "\n"))]++
	}
	for _, e := range []api.Errno{api.OK, api.ErrJob, api.ErrLine, api.ErrCell, api.ErrWords, api.ErrAddr, api.ErrTwice, api.ErrReds, api.ErrFuel, api.ErrStep, api.ErrShape, api.ErrTasks, api.ErrCodes, api.ErrLen, api.ErrFall, api.ErrLabel} {
		if errors[e] == 0 {
			t.Error("never", e, errors)
		}
	}
}

// P1, P17.5, P17.6: rows of bytes at random are no jobs and no configs, and each call answers something
func TestRandomBytes(t *testing.T) {
	m := rand.New(rand.NewSource(7))
	parts := []string{"words ", "cell ", "red ", "sum ", "fuel ", "for ", "pipe ", "code ", "task ", "{", "}", "\n", "\n", " ", "\t", "\r", "#", "1 ", "4 ", "-1 ", "x", "\x00", "\xc3", "static ", "force", "workers "}
	for range 20000 {
		var s strings.Builder
		for range m.Intn(40) {
			s.WriteString(parts[m.Intn(len(parts))])
		}
		sameSight(t, s.String())
		if c, e := ParseConfig(s.String()); e != api.ErrForm || c != (api.Config{}) {
			t.Fatalf("%q: %v %d", s.String(), c, e)
		}
	}
}
