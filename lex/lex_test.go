package lex

import (
	"slices"
	"strings"
	"testing"

	"outrider/api"
)

func ownWords() []string {
	return strings.Fields("var if else while emit into fail stop m min max")
}

// P3.1
func TestWords(t *testing.T) {
	for _, w := range ownWords() {
		if !Words(w) || Name(w) {
			t.Errorf("%q is a word, and no name", w)
		}
		for _, s := range []string{w + " ", " " + w, strings.ToUpper(w), w + "a", w + "1", w[1:] + "_"} {
			if Words(s) {
				t.Errorf("%q is no word", s)
			}
		}
	}
	for _, s := range []string{"", "i", "k", "n", "va", "mi", "elseif", "for", "task", "=", "0", "\x00"} {
		if Words(s) {
			t.Errorf("%q is no word", s)
		}
	}
}

const (
	letters = "abcdefghijklmnopqrstuvwxyzABCDEFGHIJKLMNOPQRSTUVWXYZ_"
	digits  = "0123456789"
)

// nameByWords is what the document says of a name, by other means.
func nameByWords(s string) bool {
	if len(s) < 1 || len(s) > 12 || slices.Contains(ownWords(), s) {
		return false
	}
	return strings.IndexByte(letters, s[0]) >= 0 && strings.Trim(s, letters+digits) == ""
}

// P3.1: all texts of up to two bytes
func TestShortNames(t *testing.T) {
	texts := []string{""}
	for a := range 256 {
		texts = append(texts, string([]byte{byte(a)}))
		for b := range 256 {
			texts = append(texts, string([]byte{byte(a), byte(b)}))
		}
	}
	for _, s := range texts {
		if want := nameByWords(s); Name(s) != want {
			t.Fatalf("Name(%q) isn't %v", s, want)
		}
	}
}

// P3.1
func TestNames(t *testing.T) {
	for _, s := range []string{"_", "__", "x1", "i", "k", "n", "mi", "minmax", "Var", "IF", "abcdefghijkl", "a12345678901", "____________", "m1", "m_"} {
		if !Name(s) || Words(s) {
			t.Errorf("%q is a name", s)
		}
	}
	for _, s := range []string{"", "1", "1a", "abcdefghijklm", "a123456789012", "a b", " a", "a ", "a-b", "a$", "é", "aé", "a\x00", "a\n", strings.Repeat("a", 10000)} {
		if Name(s) {
			t.Errorf("%q is no name", s)
		}
	}
}

// P3.3
func TestJoin(t *testing.T) {
	end := api.Token{Kind: api.TokEnd, Text: "end"}
	a := api.Token{Kind: api.TokName, Text: "a", At: 9}
	none := api.Token{Kind: api.TokSign}
	odd := api.Token{Kind: 77, Text: "b c"}
	for _, c := range []struct {
		l    []api.Token
		want string
	}{
		{nil, ""},
		{[]api.Token{}, ""},
		{[]api.Token{end}, ""},
		{[]api.Token{a}, "a"},
		{[]api.Token{a, end}, "a"},
		{[]api.Token{end, a, end, odd}, "a b c"},
		{[]api.Token{a, none, a}, "a  a"},
		{[]api.Token{none}, ""},
		{[]api.Token{none, none}, " "},
		{[]api.Token{{Kind: -1, Text: "$"}, {Kind: api.TokNum, Num: 7}, {Kind: api.TokWord, Text: "if"}}, "$  if"},
	} {
		if got := Join(c.l); got != c.want {
			t.Errorf("%v: %q, not %q", c.l, got, c.want)
		}
	}
}

// P3.3, rule 5
func TestJoinChangesNothing(t *testing.T) {
	l := []api.Token{{Kind: api.TokName, Text: "a"}, {Kind: api.TokEnd}, {Kind: api.TokSign, Text: ";"}}
	was := slices.Clone(l)
	if Join(l) != Join(l) || !slices.Equal(l, was) {
		t.Error(l)
	}
}
