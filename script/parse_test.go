package script

import (
	"slices"
	"strconv"
	"strings"
	"testing"

	"outrider/api"
)

// shown: entries as a text, each one for itself.
func shown(l []api.Entry) string {
	var items []string
	for _, e := range l {
		s := strconv.Itoa(e.Worker)
		if e.Abort {
			s = "!" + s
		}
		items = append(items, s)
	}
	return strings.Join(items, " ")
}

// reads: a text has just these entries, which are shown.
func reads(t *testing.T, text, want string) {
	t.Helper()
	l, at, e := Parse(text)
	if e != api.OK || at != 0 || shown(l) != want {
		t.Errorf("%.60q: %.60q, %d, %v, not %.60q", text, shown(l), at, e, want)
	}
}

// refuses: a text has this fault at this place.
func refuses(t *testing.T, text string, at int, e api.Errno) {
	t.Helper()
	if l, a, no := Parse(text); len(l) != 0 || a != at || no != e {
		t.Errorf("%.60q: %d entries, %d, %v, not %d, %v", text, len(l), a, no, at, e)
	}
}

// has: a text has so many entries.
func has(t *testing.T, text string, many int) {
	t.Helper()
	if l, at, e := Parse(text); e != api.OK || at != 0 || len(l) != many {
		t.Errorf("%.60q: %d entries, %d, %v, not %d", text, len(l), at, e, many)
	}
}

// P25.1: the chapter's examples
func TestParseExamples(t *testing.T) {
	reads(t, "0 1*2 !0", "0 1 1 !0")
	reads(t, "(0 1)*2", "0 1 0 1")
	reads(t, "2*0", "")
	reads(t, "()", "")
	refuses(t, "x", 0, api.ErrScript)
	refuses(t, "1*", 2, api.ErrScript)
	refuses(t, "(1", 2, api.ErrScript)
	refuses(t, "01", 0, api.ErrScript)
}

// P25.1: items
func TestParseItems(t *testing.T) {
	for _, c := range [][2]string{
		{"", ""}, {"0", "0"}, {"12", "12"}, {"1 2", "1 2"}, {"!3", "!3"}, {"!12*3", "!12 !12 !12"}, {"7*1", "7"}, {"7*10", "7 7 7 7 7 7 7 7 7 7"},
		{"1!2", "1 !2"}, {"!1!2!3", "!1 !2 !3"}, {"1(2)3", "1 2 3"}, {"1*2(3)", "1 1 3"}, {"1*2!3*2", "1 1 !3 !3"}, {"(1)2", "1 2"}, {"(1)(2)", "1 2"}, {"(1)*2(2)*3", "1 1 2 2 2"},
		{"(!0 1*2)*2", "!0 1 1 !0 1 1"}, {"(0(1)*2 2)*2", "0 1 1 2 0 1 1 2"}, {"((0)*2(1)*3)*2", "0 0 1 1 1 0 0 1 1 1"}, {"(1 2)*0 3", "3"}, {"3(1 2)*0", "3"}, {"3 !1*0 4", "3 4"},
		{"()()", ""}, {"()*5", ""}, {"()*2147483647 1", "1"}, {"(()*9 ())*2147483647", ""}, {"((1)*0)*2147483647", ""}, {"( )", ""}, {"(\n)*2", ""},
		{"0*2 0*3", "0 0 0 0 0"}, {"(1*2)*2", "1 1 1 1"}, {"(1)*1", "1"}, {"1*0 1*0", ""},
		{"(1 2(3 4(5)*2)*1)*2 6", "1 2 3 4 5 5 1 2 3 4 5 5 6"},
	} {
		reads(t, c[0], c[1])
	}
}

// P25.1: blanks ahead, between and behind, and where none may stand
func TestParseBlanks(t *testing.T) {
	for _, b := range []string{" ", "\n", "  ", "\n\n", " \n", "\n ", strings.Repeat(" \n", 50)} {
		reads(t, b, "")
		reads(t, b+"1", "1")
		reads(t, "1"+b, "1")
		reads(t, "1"+b+"2", "1 2")
		reads(t, b+"("+b+"1*2"+b+"!2"+b+")*2"+b, "1 1 !2 1 1 !2")
		refuses(t, "1"+b+"*2", 1+len(b), api.ErrScript)
		refuses(t, "(1)"+b+"*2", 3+len(b), api.ErrScript)
		refuses(t, "1*"+b+"2", 2, api.ErrScript)
		refuses(t, "!"+b+"2", 1, api.ErrScript)
		refuses(t, "(1"+b, 2+len(b), api.ErrScript)
	}
	reads(t, "1 2", "1 2")
	reads(t, "1\n2", "1 2")
	for b := range 256 {
		if b == ' ' || b == '\n' || b >= '0' && b <= '9' || b == '(' || b == ')' || b == '!' || b == '*' {
			continue
		}
		refuses(t, string([]byte{byte(b)}), 0, api.ErrScript)
		refuses(t, "1"+string([]byte{byte(b)}), 1, api.ErrScript)
		refuses(t, "(1 "+string([]byte{byte(b)})+")", 3, api.ErrScript)
	}
}

// P25.1: numbers
func TestParseNumbers(t *testing.T) {
	reads(t, "2147483647", "2147483647")
	reads(t, "!2147483647", "!2147483647")
	reads(t, "2147483646*1 10", "2147483646 10")
	for _, n := range []string{"00", "01", "007", "2147483648", "2147483649", "4294967296", "9223372036854775807", "9223372036854775808", "18446744073709551616", "18446744073709551617", "02147483648", strings.Repeat("9", 400), strings.Repeat("0", 400)} {
		refuses(t, n, 0, api.ErrScript)
		refuses(t, " "+n+" x", 1, api.ErrScript)
		refuses(t, "!"+n, 1, api.ErrScript)
		refuses(t, "1*"+n, 2, api.ErrScript)
		refuses(t, "!1*"+n+")", 3, api.ErrScript)
		refuses(t, "()*"+n, 3, api.ErrScript)
		refuses(t, "(1)*2 "+n+"*2", 6, api.ErrScript)
	}
	refuses(t, "-1", 0, api.ErrScript)
	refuses(t, "!-1", 1, api.ErrScript)
	refuses(t, "1*-1", 2, api.ErrScript)
	refuses(t, "1-1", 1, api.ErrScript)
	refuses(t, "+1", 0, api.ErrScript)
	refuses(t, "1*+1", 2, api.ErrScript)
	refuses(t, "1.5", 1, api.ErrScript)
	refuses(t, "\u0661", 0, api.ErrScript)
}

// P25.1: ! and * without digits; what can't stand behind an item
func TestParseSigns(t *testing.T) {
	for _, c := range []struct {
		text string
		at   int
	}{
		{"!", 1}, {"1 !", 3}, {"!!1", 1}, {"!(1)", 1}, {"!)", 1}, {"!*2", 1}, {"!x", 1}, {"(!)", 2},
		{"*", 0}, {"*2", 0}, {" *2", 1}, {"1 *2", 2}, {"(*2)", 1}, {"()**2", 3}, {"1**", 2}, {"1*", 2}, {"!1*", 3}, {"1*x", 2}, {"1*!2", 2}, {"1*(2)", 2}, {"(1)*", 4}, {"(1*)", 3}, {"()*)", 3},
		{"1*2*3", 3}, {"(1)*2*3", 5}, {"1*2*", 3}, {"!1*0*0", 4}, {"1*2x", 3}, {"1x", 1}, {"1 2,3", 3},
	} {
		refuses(t, c.text, c.at, api.ErrScript)
	}
}

// P25.1: brackets
func TestParseBrackets(t *testing.T) {
	open, shut := strings.Repeat("(", 8), strings.Repeat(")", 8)
	reads(t, open+"1"+shut, "1")
	reads(t, open+shut, "")
	reads(t, open+shut+open+"2"+shut, "2")
	reads(t, strings.Repeat("(", 7)+strings.Repeat("()", 20)+"3"+strings.Repeat(")", 7), "3")
	reads(t, strings.Repeat("()", 4000), "")
	has(t, open+"1"+strings.Repeat(")*2", 8), 256)
	refuses(t, "("+open+"1"+shut+")", 8, api.ErrScript)
	refuses(t, "("+open, 8, api.ErrScript)
	refuses(t, open+shut+"1 "+open+"(", 26, api.ErrScript)
	refuses(t, strings.Repeat("(", 400), 8, api.ErrScript)
	refuses(t, "((((1) ((((((1", 12, api.ErrScript)
	for _, c := range []struct {
		text string
		at   int
	}{
		{"(", 1}, {"((1)", 4}, {"(1 2 ", 5}, {"(()", 3}, {open, 8}, {open + "1" + shut[1:], 16},
		{")", 0}, {"1)", 1}, {"())", 2}, {"(1)*2)", 5}, {" )", 1}, {"1 )(", 2}, {"(1))*2", 3}, {open + shut + ")", 16},
		{"[1]", 0}, {"(1]", 2},
	} {
		refuses(t, c.text, c.at, api.ErrScript)
	}
}

// P25.1: scripts of MaxScript entries and of one more, of which the fault lies right behind the item
func TestParseMany(t *testing.T) {
	for text, many := range map[string]int{
		"0*40000": 40000, "!0*40000": 40000, "(0)*40000": 40000, "(0 1)*20000": 40000, "0*39999 1": 40000, "1 0*39999": 40000, "0*40000 1*0": 40000, "0*40000()": 40000, "0*40000 ()*2147483647": 40000,
		"(0*40000)": 40000, "(0*40000)*1": 40000, "(0*40000)*0": 0, "(0*40000)*0 1*40000": 40000, "(0*200)*200": 40000, "((0*10)*10(1*100)*3)*100": 40000,
		"((0*40000)*0 1*40000)*0 2": 1, "1*40000 (2*40000)*0": 40000,
	} {
		has(t, text, many)
	}
	for _, c := range []struct {
		text string
		at   int
	}{
		{"0*40001", 1}, {"!0*40001", 2}, {" 12*2147483647", 3}, {"(0)*40001", 3}, {"(0 1)*20001", 5}, {"0*39999 1*2", 9}, {"0*40000 1", 9}, {"0*40000 123", 11}, {"0*40000 !1", 10}, {"1 0*40000", 3},
		{"(0*40001)*0", 2}, {"(0*40000)*2", 9}, {"(0*40000)(1)", 12}, {"(0*40000)1", 10}, {"0*40000(1)", 10}, {"0*30000 (1*30000)", 17}, {"0*30000 (1*30000 2*30000)*0", 18}, {"(0*40000 1*1)*0", 10},
		{"(0*200)*201", 7}, {"(0*40000)*0 1*40001", 13}, {"((0*40000)*1)*2", 13}, {"((((((((0*2)*2)*2)*2)*2)*2)*2)*400)*2147483647", 30}, {"((((((((0*2)*2)*2)*2)*2)*2)*2)*300)*2147483647", 35}, {"((1)*40000 2*0)*1 3", 19},
		{"(0*40000)*2147483647", 9}, {"((0*40000))*2147483647", 11},
	} {
		refuses(t, c.text, c.at, api.ErrRepeat)
	}
	for _, text := range []string{strings.Repeat("(0*40000)*0", 744), strings.Repeat("((0*200)*200)*0", 540), strings.Repeat("((((((((0*40000))))))))*0", 320)} {
		has(t, text, 0)
	}
}

// P25.1: texts of MaxText bytes and of one more
func TestParseLong(t *testing.T) {
	long := strings.Repeat("1 ", api.MaxText/2)
	has(t, long, api.MaxText/2)
	has(t, strings.Repeat("!2", api.MaxText/2), api.MaxText/2)
	has(t, strings.Repeat(" ", api.MaxText), 0)
	has(t, strings.Repeat("\n", api.MaxText-1)+"3", 1)
	refuses(t, long[1:]+"*", api.MaxText-1, api.ErrScript)
	refuses(t, long[2:]+"1*", api.MaxText, api.ErrScript)
	refuses(t, long[1:]+"x", api.MaxText-1, api.ErrScript)
	refuses(t, "("+long[1:], api.MaxText, api.ErrScript)
	for _, text := range []string{long + " ", long + "x", "x" + long, strings.Repeat(" ", api.MaxText+1), "(" + long, "0*40001" + long, strings.Repeat("(", 1<<17), strings.Repeat("9", 1<<17)} {
		refuses(t, text, 0, api.ErrLong)
	}
}

// P25.1: of several faults the first from the left is told; that there are too many is come to once the item's number has been read
func TestParseFirstFault(t *testing.T) {
	refuses(t, "1 x 01 (", 2, api.ErrScript)
	refuses(t, "01 0*40001", 0, api.ErrScript)
	refuses(t, "0*40001 01", 1, api.ErrRepeat)
	refuses(t, "0*40001x", 1, api.ErrRepeat)
	refuses(t, "0*40001*2", 1, api.ErrRepeat)
	refuses(t, "(0*40001", 2, api.ErrRepeat)
	refuses(t, "((((((((0*40001(", 9, api.ErrRepeat)
	refuses(t, "0*40000 1*x", 10, api.ErrScript)
	refuses(t, "0*40000 1*", 10, api.ErrScript)
	refuses(t, "0*40000 1*01", 10, api.ErrScript)
	refuses(t, "0*40000 1*2147483648", 10, api.ErrScript)
	refuses(t, "0*40000 1x", 9, api.ErrRepeat)
	refuses(t, "0*40000 1)", 9, api.ErrRepeat)
	refuses(t, "0*40000 (1", 10, api.ErrScript)
	refuses(t, "0*40000 (1 x)", 11, api.ErrScript)
	refuses(t, "0*40000 01", 8, api.ErrScript)
	refuses(t, "0*2147483648", 2, api.ErrScript)
	refuses(t, "2147483648*40001", 0, api.ErrScript)
	refuses(t, "0*30000 (1*30000 2*30000 x", 18, api.ErrRepeat)
	refuses(t, "0*30000 (1*30000 x", 17, api.ErrScript)
	refuses(t, "(1 ((((((((", 10, api.ErrScript)
}

// P25.1, rule 5: each answer is new memory, and nothing is handed out behind it
func TestParseNewMemory(t *testing.T) {
	a, _, _ := Parse("(7*9)*0 1*3 !2")
	if n := len(a[:cap(a)]); n != 4 {
		t.Error("behind the list there is more:", a[:cap(a)])
	}
	b, _, _ := Parse("(7*9)*0 1*3 !2")
	clear(a)
	if shown(b) != "1 1 1 !2" {
		t.Error("two answers share memory:", b)
	}
	c, _, _ := Parse("(7*9)*0 1*3 !2")
	if !slices.Equal(b, c) {
		t.Error(b, c)
	}
}
