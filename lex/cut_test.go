package lex

import (
	"math/rand"
	"regexp"
	"slices"
	"strconv"
	"strings"
	"testing"

	"outrider/api"
)

func tok(kind api.TokKind, text string, at int) api.Token {
	n := int64(0)
	if kind == api.TokNum {
		n, _ = strconv.ParseInt(text, 10, 64)
	}
	return api.Token{Kind: kind, Text: text, Num: n, At: at}
}

// P3.2: the chapter's examples, and others like them
func TestCut(t *testing.T) {
	for _, c := range []struct {
		s    string
		want []api.Token
	}{
		{"", []api.Token{tok(api.TokEnd, "", 0)}},
		{" \t\r\n", []api.Token{tok(api.TokEnd, "", 4)}},
		{"x=12;", []api.Token{tok(api.TokName, "x", 0), tok(api.TokSign, "=", 1), tok(api.TokNum, "12", 2), tok(api.TokSign, ";", 4), tok(api.TokEnd, "", 5)}},
		{"a<<=b", []api.Token{tok(api.TokName, "a", 0), tok(api.TokSign, "<<", 1), tok(api.TokSign, "=", 3), tok(api.TokName, "b", 4), tok(api.TokEnd, "", 5)}},
		{"m # m", []api.Token{tok(api.TokWord, "m", 0), tok(api.TokEnd, "", 5)}},
		{"m # m\nm#", []api.Token{tok(api.TokWord, "m", 0), tok(api.TokWord, "m", 6), tok(api.TokEnd, "", 8)}},
		{"if\tiff", []api.Token{tok(api.TokWord, "if", 0), tok(api.TokName, "iff", 3), tok(api.TokEnd, "", 6)}},
		{"a1 0", []api.Token{tok(api.TokName, "a1", 0), tok(api.TokNum, "0", 3), tok(api.TokEnd, "", 4)}},
		{"-1", []api.Token{tok(api.TokSign, "-", 0), tok(api.TokNum, "1", 1), tok(api.TokEnd, "", 2)}},
		{"1#a\n2", []api.Token{tok(api.TokNum, "1", 0), tok(api.TokNum, "2", 4), tok(api.TokEnd, "", 5)}},
		{"# $ 07 7a é \r\x00 # x\n;", []api.Token{tok(api.TokSign, ";", 20), tok(api.TokEnd, "", 21)}},
		{"#", []api.Token{tok(api.TokEnd, "", 1)}},
		{"\n##\n", []api.Token{tok(api.TokEnd, "", 4)}},
	} {
		if got, at, e := Cut(c.s); !slices.Equal(got, c.want) || at != 0 || e != api.OK {
			t.Errorf("%q: %v %d %d, not %v", c.s, got, at, e, c.want)
		}
	}
}

func fails(t *testing.T, s string, at int, e api.Errno) {
	t.Helper()
	short := s[:min(len(s), 40)]
	if got, gotAt, gotE := Cut(s); len(got) != 0 || gotAt != at || gotE != e {
		t.Errorf("%q: %d tokens, %d %d, not %d %d", short, len(got), gotAt, gotE, at, e)
	}
}

func cuts(t *testing.T, s, joined string, end int) {
	t.Helper()
	short := s[:min(len(s), 40)]
	l, at, e := Cut(s)
	if e != api.OK || at != 0 || Join(l) != joined {
		t.Fatalf("%q: %q %d %d", short, Join(l), at, e)
	}
	if last := l[len(l)-1]; last != tok(api.TokEnd, "", end) {
		t.Errorf("%q ends with %v", short, last)
	}
}

// P3.2: the faults, each ahead of what is behind it
func TestCutFaults(t *testing.T) {
	for _, c := range []struct {
		s  string
		at int
		e  api.Errno
	}{
		{"a $", 2, api.ErrByte},
		{"07", 0, api.ErrNum},
		{"7a", 1, api.ErrByte},
		{"abcdefghijklm", 0, api.ErrName},
		{"$", 0, api.ErrByte},
		{"a.b", 1, api.ErrByte},
		{"\x00", 0, api.ErrByte},
		{"a\v", 1, api.ErrByte},
		{"a\f", 1, api.ErrByte},
		{"\x80", 0, api.ErrByte},
		{"aé", 1, api.ErrByte},
		{"<é", 1, api.ErrByte},
		{" 00", 1, api.ErrNum},
		{"a=012;", 2, api.ErrNum},
		{"07a", 0, api.ErrNum},
		{"9223372036854775808a", 0, api.ErrNum},
		{"0a", 1, api.ErrByte},
		{"0_", 1, api.ErrByte},
		{"12Z", 2, api.ErrByte},
		{"1m", 1, api.ErrByte},
		{"1if", 1, api.ErrByte},
		{"1abcdefghijklm", 1, api.ErrByte},
		{";abcdefghijklm$", 1, api.ErrName},
		{"$ 07", 0, api.ErrByte},
		{"07 $", 0, api.ErrNum},
		{"abcdefghijklm 07", 0, api.ErrName},
		{"# ok\n?", 5, api.ErrByte},
		{"a123456789012", 0, api.ErrName},
		{"whilewhilewhile", 0, api.ErrName},
	} {
		fails(t, c.s, c.at, c.e)
	}
}

// P3.2: a text of MaxText bytes, and of one more
func TestCutLong(t *testing.T) {
	blanks := strings.Repeat(" ", api.MaxText)
	cuts(t, blanks, "", 8192)
	fails(t, blanks+" ", 0, api.ErrLong)
	cuts(t, blanks[1:]+"a", "a", 8192)
	fails(t, blanks[1:]+"$", 8191, api.ErrByte)
	fails(t, "$"+blanks, 0, api.ErrLong)
	fails(t, "07"+blanks, 0, api.ErrLong)
	fails(t, "#"+blanks, 0, api.ErrLong)
	fails(t, strings.Repeat("a", api.MaxText), 0, api.ErrName)
	fails(t, strings.Repeat("1", api.MaxText), 0, api.ErrNum)
	l, at, e := Cut(strings.Repeat(";", api.MaxText))
	if len(l) != 8193 || at != 0 || e != api.OK || l[8191] != tok(api.TokSign, ";", 8191) {
		t.Error(len(l), at, e)
	}
}

// P3.2: the numbers' edges
func TestCutNumbers(t *testing.T) {
	for _, s := range []string{"0", "1", "9", "10", "100", "1234567890", "999999999999999999", "1000000000000000000", "9223372036854775806", "9223372036854775807"} {
		n, _ := strconv.ParseInt(s, 10, 64)
		if l, _, e := Cut(s); e != api.OK || len(l) != 2 || l[0] != (api.Token{Kind: api.TokNum, Text: s, Num: n}) {
			t.Error(s, l, e)
		}
	}
	for _, s := range []string{"00", "01", "09223372036854775807", "000000000000000000000000", "9223372036854775808", "9223372036854775810", "9999999999999999999", "10000000000000000000", "18446744073709551616", "18446744073709551617", strings.Repeat("9", 300)} {
		fails(t, s, 0, api.ErrNum)
		fails(t, "a "+s+";", 2, api.ErrNum)
	}
}

// P3.2: names of MaxName bytes and of one more; words within names
func TestCutNames(t *testing.T) {
	for _, s := range []string{"abcdefghijkl", "a12345678901", "____________", "minimum", "mm", "m1", "_m", "varr", "iF"} {
		if l, _, e := Cut(s); e != api.OK || !slices.Equal(l, []api.Token{tok(api.TokName, s, 0), tok(api.TokEnd, "", len(s))}) {
			t.Error(s, l, e)
		}
		fails(t, s+"abcdefghijkl", 0, api.ErrName)
	}
	for _, s := range ownWords() {
		if l, _, e := Cut(s); e != api.OK || !slices.Equal(l, []api.Token{tok(api.TokWord, s, 0), tok(api.TokEnd, "", len(s))}) {
			t.Error(s, l, e)
		}
	}
}

// reference reads tokens by regular expressions, of which the longest match counts.
type reference struct {
	between, number, word, sign *regexp.Regexp
}

func newReference() reference {
	signs := strings.Fields("== != <= >= << >> = < > + - * / % & | ^ ~ ! ( ) [ ] { } ; ,")
	for i, s := range signs {
		signs[i] = regexp.QuoteMeta(s)
	}
	return reference{
		between: regexp.MustCompile("^([ \\n\\t\\r]|#[^\\n]*)+"),
		number:  regexp.MustCompile("^[0-9]+"),
		word:    regexp.MustCompile("^[a-zA-Z_][a-zA-Z_0-9]*"),
		sign:    regexp.MustCompile("^(" + strings.Join(signs, "|") + ")"),
	}
}

func (r reference) cut(s string) ([]api.Token, int, api.Errno) {
	var l []api.Token
	for at := 0; ; {
		at += len(r.between.FindString(s[at:]))
		if at == len(s) {
			return append(l, api.Token{At: at}), 0, api.OK
		}
		x, bad, e := r.token(s[at:])
		if e != api.OK {
			return nil, at + bad, e
		}
		x.At = at
		l = append(l, x)
		at += len(x.Text)
	}
}

func (r reference) token(s string) (api.Token, int, api.Errno) {
	if x := r.number.FindString(s); x != "" {
		n, err := strconv.ParseInt(x, 10, 64)
		if err != nil || strconv.FormatInt(n, 10) != x {
			return api.Token{}, 0, api.ErrNum
		}
		if r.word.MatchString(s[len(x):]) {
			return api.Token{}, len(x), api.ErrByte
		}
		return api.Token{Kind: api.TokNum, Text: x, Num: n}, 0, api.OK
	}
	if x := r.word.FindString(s); slices.Contains(ownWords(), x) {
		return api.Token{Kind: api.TokWord, Text: x}, 0, api.OK
	} else if len(x) > 12 {
		return api.Token{}, 0, api.ErrName
	} else if x != "" {
		return api.Token{Kind: api.TokName, Text: x}, 0, api.OK
	}
	if x := r.sign.FindString(s); x != "" {
		return api.Token{Kind: api.TokSign, Text: x}, 0, api.OK
	}
	return api.Token{}, 0, api.ErrByte
}

func (r reference) holds(t *testing.T, s string) {
	t.Helper()
	want, wantAt, wantE := r.cut(s)
	got, at, e := Cut(s)
	if !slices.Equal(got, want) || at != wantAt || e != wantE {
		t.Fatalf("%q: %v %d %d, not %v %d %d", s, got, at, e, want, wantAt, wantE)
	}
}

// P3.2: all texts of up to two bytes, and all of three of the signs' bytes
func TestCutShort(t *testing.T) {
	r := newReference()
	for a := range 256 {
		r.holds(t, string([]byte{byte(a)}))
		for b := range 256 {
			r.holds(t, string([]byte{byte(a), byte(b)}))
		}
	}
	const bytes = "=<>+-*/%&|^~!()[]{};,#\n $"
	for _, a := range bytes {
		for _, b := range bytes {
			for _, c := range bytes {
				r.holds(t, string([]rune{a, b, c}))
			}
		}
	}
}

// pieces of which texts are put together at random
func pieces() []string {
	return append(ownWords(), "a", "xyz", "_", "x1", "0", "7", "12", "007", "9223372036854775807", "9223372036854775808", "abcdefghijk", "=", "==", "!", "<", ">", "<<", ">=", "+", "-", "*", "/", "%", "&", "|", "^", "~", "(", ")", "[", "]", "{", "}", ";", ",", " ", " ", " ", "\n", "\t", "\r", "#", "$", "\xff")
}

// P3.2
func TestCutRandom(t *testing.T) {
	r := newReference()
	random := rand.New(rand.NewSource(3))
	all := pieces()
	for range 30000 {
		s := ""
		for range random.Intn(9) {
			s += all[random.Intn(len(all))]
		}
		r.holds(t, s)
	}
}

func withoutPlaces(l []api.Token) []api.Token {
	l = slices.Clone(l)
	for i := range l {
		l[i].At = 0
	}
	return l
}

// P3.4
func TestJoinedAndCut(t *testing.T) {
	random := rand.New(rand.NewSource(4))
	all := pieces()
	between := []string{" ", "\n", "\t\r", " # a $ 07\n", "#\n", "#m # m\n  "}
	cut := 0
	for range 30000 {
		s := ""
		for range random.Intn(12) {
			s += all[random.Intn(len(all))]
		}
		l, _, e := Cut(s)
		if e != api.OK {
			continue
		}
		cut++
		if again, at, e := Cut(Join(l)); e != api.OK || at != 0 || !slices.Equal(withoutPlaces(again), withoutPlaces(l)) {
			t.Fatalf("%q: %v", s, again)
		}
		spread := between[random.Intn(len(between))]
		for _, x := range l {
			spread += x.Text + between[random.Intn(len(between))]
		}
		again, _, e := Cut(spread + "# up to the end")
		if e != api.OK || !slices.Equal(withoutPlaces(again), withoutPlaces(l)) {
			t.Fatalf("%q: %v", spread, again)
		}
	}
	if cut < 5000 {
		t.Error("too few texts were cut:", cut)
	}
}

// P2, rule 5: an answer that is changed changes no other
func TestCutIsNew(t *testing.T) {
	const s = "if (a) { m[1] = 2; }"
	first, _, _ := Cut(s)
	want := slices.Clone(first)
	for i := range first {
		first[i] = api.Token{}
	}
	if again, _, _ := Cut(s); !slices.Equal(again, want) {
		t.Error(again)
	}
}
