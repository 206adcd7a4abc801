package asm

import (
	"math"
	"math/rand"
	"slices"
	"strings"
	"testing"

	"outrider/api"
	"outrider/ins"
)

// one of the chapter's table: an instruction, its word, its parts, and its line.
type row struct {
	x                 api.Ins
	word, parts, line string
}

// rows: each word of the chapter's table; targets go to the place 1.
func rows() []row {
	l := []row{
		{api.Ins{Kind: api.InsHalt}, "halt", "", "halt"},
		{api.Ins{Kind: api.InsConst, A: 1, K: -7}, "const", "ak", "const r1 -7"},
		{api.Ins{Kind: api.InsMove, A: 1, B: 2}, "move", "ab", "move r1 r2"},
		{api.Ins{Kind: api.InsOne, Op: 19, A: 1, B: 2}, "neg", "ab", "neg r1 r2"},
		{api.Ins{Kind: api.InsOne, Op: 20, A: 3, B: 0}, "com", "ab", "com r3 r0"},
		{api.Ins{Kind: api.InsOne, Op: 21, A: 15, B: 14}, "not", "ab", "not r15 r14"},
		{api.Ins{Kind: api.InsLoad, A: 1, B: 2, K: 9}, "load", "abk", "load r1 r2 9"},
		{api.Ins{Kind: api.InsStore, A: 1, B: 2, K: 0}, "store", "abk", "store r1 r2 0"},
		{api.Ins{Kind: api.InsInto, A: 1, C: 3}, "into", "ar", "into r1 3"},
		{api.Ins{Kind: api.InsEmit, A: 1}, "emit", "a", "emit r1"},
		{api.Ins{Kind: api.InsFail, A: 1}, "fail", "a", "fail r1"},
		{api.Ins{Kind: api.InsJump, K: 1}, "jump", "l", "jump l1"},
		{api.Ins{Kind: api.InsZero, A: 4, K: 1}, "zero", "al", "zero r4 l1"},
		{api.Ins{Kind: api.InsOther, A: 5, K: 1}, "other", "al", "other r5 l1"},
	}
	for i, word := range strings.Fields("add sub mul div rem and or xor shl shr eq ne lt le gt ge min max") {
		l = append(l, row{api.Ins{Kind: api.InsTwo, Op: api.Op(i + 1), A: 1, B: 2, C: 3}, word, "abc", word + " r1 r2 r3"})
	}
	return l
}

// P9.1
func TestWord(t *testing.T) {
	for _, c := range rows() {
		if word, parts := Word(c.x); word != c.word || parts != c.parts {
			t.Errorf("Word(%+v) = %q, %q; not %q, %q", c.x, word, parts, c.word, c.parts)
		}
		x := c.x // the other parts don't matter, whatever they are
		x.A, x.B, x.C, x.K = -1, 99, math.MaxInt, math.MinInt64
		if x.Kind != api.InsOne && x.Kind != api.InsTwo {
			x.Op = 99
		}
		if word, parts := Word(x); word != c.word || parts != c.parts {
			t.Errorf("Word(%+v) = %q, %q; not %q, %q", x, word, parts, c.word, c.parts)
		}
	}
}

// P9.1: of a Kind or an Op that may not be
func TestWordOfNone(t *testing.T) {
	for _, kind := range []api.InsKind{math.MinInt, -1, 0, 14, 15, 257, 1<<32 + 1, math.MaxInt} {
		none(t, api.Ins{Kind: kind})
		none(t, api.Ins{Kind: kind, Op: api.OpAdd, A: 1})
	}
	for _, op := range []api.Op{math.MinInt, -1, 0, 22, 257, 1<<32 + 1, 1<<32 + 19, math.MaxInt} {
		none(t, api.Ins{Kind: api.InsOne, Op: op})
		none(t, api.Ins{Kind: api.InsTwo, Op: op})
	}
	for op := api.OpAdd; op <= api.OpMax; op++ {
		none(t, api.Ins{Kind: api.InsOne, Op: op})
	}
	for op := api.OpNeg; op <= api.OpNot; op++ {
		none(t, api.Ins{Kind: api.InsTwo, Op: op})
	}
}

func none(t *testing.T, x api.Ins) {
	t.Helper()
	if word, parts := Word(x); word != "" || parts != "" {
		t.Errorf("Word(%+v) = %q, %q", x, word, parts)
	}
}

// P9.1
func TestLabel(t *testing.T) {
	for _, s := range []string{"a", "z", "l0", "halt", "r1", "x9", "az09", "zzzzzzzzzzzz", "a12345678901"} {
		if !Label(s) {
			t.Errorf("%q is no label's name", s)
		}
	}
	for _, s := range []string{"", "0", "9a", "A", "aB", "a_", "_a", "a:", "a b", " a", "a ", "a\n", "a\x00", "a\x80", "é", "aé", "zzzzzzzzzzzzz", "a123456789012", "-a", "a-"} {
		if Label(s) {
			t.Errorf("%q is a label's name", s)
		}
	}
	for b := range 256 {
		small, digit := b >= 'a' && b <= 'z', b >= '0' && b <= '9'
		if s := string([]byte{byte(b)}); Label(s) != small {
			t.Errorf("Label(%q) isn't %v", s, small)
		}
		if s := "a" + string([]byte{byte(b)}) + "a"; Label(s) != (small || digit) {
			t.Errorf("Label(%q) isn't %v", s, small || digit)
		}
	}
}

func text(t *testing.T, l []api.Ins, cells int, want string, no api.Errno) {
	t.Helper()
	was := slices.Clone(l)
	if s, e := Text(l, cells); s != want || e != no {
		t.Errorf("Text(%v, %d) = %q, %d; not %q, %d", l, cells, s, e, want, no)
	}
	if !slices.Equal(l, was) {
		t.Error("Text has changed what it was handed")
	}
}

// P9.2: the line of each word
func TestText(t *testing.T) {
	for _, c := range rows() {
		want := c.line + "\nhalt\n"
		if strings.Contains(c.parts, "l") {
			want = c.line + "\nl1:\nhalt\n"
		}
		text(t, []api.Ins{c.x, {Kind: api.InsHalt}}, 4, want, api.OK)
	}
	text(t, []api.Ins{{Kind: api.InsHalt}}, -1, "halt\n", api.OK)
	text(t, []api.Ins{{Kind: api.InsConst, K: math.MinInt64}, {Kind: api.InsConst, A: 9, K: math.MaxInt64}, {Kind: api.InsHalt}}, 0, "const r0 -9223372036854775808\nconst r9 9223372036854775807\nhalt\n", api.OK)
}

// P9.2: labels stand just where targets go, each once
func TestTextLabels(t *testing.T) {
	text(t, []api.Ins{{Kind: api.InsJump, K: 0}}, 0, "l0:\njump l0\n", api.OK)
	text(t, []api.Ins{{Kind: api.InsZero, A: 1, K: 2}, {Kind: api.InsOther, A: 2, K: 0}, {Kind: api.InsJump, K: 2}}, 0, "l0:\nzero r1 l2\nother r2 l0\nl2:\njump l2\n", api.OK)
	text(t, []api.Ins{{Kind: api.InsConst, A: 3, K: 5}, {Kind: api.InsEmit, A: 3}, {Kind: api.InsOther, A: 3, K: 1}, {Kind: api.InsHalt}}, 0, "const r3 5\nl1:\nemit r3\nother r3 l1\nhalt\n", api.OK)
	text(t, []api.Ins{{Kind: api.InsConst, A: 3, K: 1}, {Kind: api.InsLoad, K: 2}, {Kind: api.InsHalt}}, 0, "const r3 1\nload r0 r0 2\nhalt\n", api.OK) // a K that is no target
	l := make([]api.Ins, 600)
	for i := range l {
		l[i] = api.Ins{Kind: api.InsHalt}
	}
	l[0] = api.Ins{Kind: api.InsZero, A: 1, K: 599}
	text(t, l, 0, "zero r1 l599\n"+strings.Repeat("halt\n", 598)+"l599:\nhalt\n", api.OK)
}

// P9.2: layer 8's error, and no text beside it
func TestTextRefuses(t *testing.T) {
	text(t, nil, 4, "", api.ErrLen)
	text(t, make([]api.Ins, 601), 4, "", api.ErrLen)
	text(t, []api.Ins{{}}, 4, "", api.ErrOp)
	text(t, []api.Ins{{Kind: api.InsOne, Op: api.OpAdd}, {Kind: api.InsHalt}}, 4, "", api.ErrOp)
	text(t, []api.Ins{{Kind: api.InsFail, A: 16}}, 4, "", api.ErrReg)
	text(t, []api.Ins{{Kind: api.InsHalt, A: 1}}, 4, "", api.ErrUnused)
	text(t, []api.Ins{{Kind: api.InsInto, C: 1}, {Kind: api.InsHalt}}, 1, "", api.ErrCell)
	text(t, []api.Ins{{Kind: api.InsInto, C: 4}, {Kind: api.InsHalt}}, 9, "", api.ErrCell)
	text(t, []api.Ins{{Kind: api.InsJump, K: -1}}, 4, "", api.ErrTarget)
	text(t, []api.Ins{{Kind: api.InsJump, K: 1}}, 4, "", api.ErrTarget)
	text(t, []api.Ins{{Kind: api.InsJump, K: math.MaxInt64}}, 4, "", api.ErrTarget)
	text(t, []api.Ins{{Kind: api.InsEmit}}, 4, "", api.ErrFall)
}

// longText: instructions whose text has so many bytes.
func longText(t *testing.T, long int) []api.Ins {
	t.Helper()
	left := long - len("halt\n")
	var l []api.Ins
	for left > 0 {
		digits := 19
		if left < 60 {
			digits = max(left/2-len("const r1 \n"), 1)
		}
		if left < 2*len("const r1 0\n") {
			digits = left - len("const r1 \n")
		}
		k := int64(1)
		for range digits - 1 {
			k *= 10
		}
		l, left = append(l, api.Ins{Kind: api.InsConst, A: 1, K: k}), left-len("const r1 \n")-digits
	}
	if left < 0 || len(l) >= api.MaxCode {
		t.Fatalf("%d: %d left behind %d", long, left, len(l))
	}
	return append(l, api.Ins{Kind: api.InsHalt})
}

// P9.2, P9.3: MaxText bytes, and one more
func TestTextIsTooLong(t *testing.T) {
	for _, long := range []int{8190, 8191, 8192} {
		l := longText(t, long)
		s, e := Text(l, 0)
		if e != api.OK || len(s) != long {
			t.Errorf("of %d: %d bytes, %d", long, len(s), e)
		}
		if back, at, e := Parse(s, 0); e != api.OK || at != 0 || !slices.Equal(back, l) {
			t.Errorf("of %d: parsed %d, %d, %d", long, len(back), at, e)
		}
	}
	for _, long := range []int{8193, 8194, 9000} {
		text(t, longText(t, long), 0, "", api.ErrLong)
	}
	wrong := longText(t, 9000)
	wrong[0].A = 16
	text(t, wrong, 0, "", api.ErrReg) // layer 8's error comes first
}

// P9.2: labels count among the bytes
func TestTextIsTooLongByItsLabels(t *testing.T) {
	l := longText(t, 8190)
	text(t, append(l, api.Ins{Kind: api.InsHalt}), 0, "", api.ErrLong)
	l = append(longText(t, 8192-len("jump l0\n")), api.Ins{Kind: api.InsJump})
	text(t, l, 0, "", api.ErrLong)
	l = append(longText(t, 8192-len("l0:\njump l0\n")), api.Ins{Kind: api.InsJump})
	if s, e := Text(l, 0); e != api.OK || len(s) != 8192 {
		t.Errorf("%d bytes, %d", len(s), e)
	}
}

// P9.4: a text is parsed as its instructions; and what is parsed, written and parsed again, is the same
func TestTextIsParsed(t *testing.T) {
	r := rand.New(rand.NewSource(9))
	many, big := 0, 0
	for range 5000 {
		l := anyCode(r)
		cells := r.Intn(6) - 1
		s, e := Text(l, cells)
		if _, no := ins.Check(l, cells); no != api.OK {
			if e != no || s != "" {
				t.Fatalf("Text(%v, %d) = %q, %d; not %d", l, cells, s, e, no)
			}
			continue
		}
		if e == api.ErrLong {
			big++
			continue
		}
		many++
		back, at, e := Parse(s, cells)
		if e != api.OK || at != 0 || !slices.Equal(back, l) {
			t.Fatalf("%q is parsed as %v, %d, %d; not %v", s, back, at, e, l)
		}
		if again, e := Text(back, cells); e != api.OK || again != s {
			t.Fatalf("%q is written as %q, %d", s, again, e)
		}
	}
	if many < 2000 || big < 10 {
		t.Errorf("only %d texts, and %d that are too long", many, big)
	}
}

// anyCode: instructions at random that may be, but perhaps for their reductions.
func anyCode(r *rand.Rand) []api.Ins {
	l := make([]api.Ins, 1+r.Intn(8))
	if r.Intn(20) == 0 {
		l = make([]api.Ins, 500+r.Intn(101))
	}
	all := rows()
	long := r.Intn(2) // with a load in every second place, many bytes
	for i := range l {
		x := all[r.Intn(len(all))].x
		if i%2 < long {
			x = api.Ins{Kind: api.InsLoad, A: 15, B: 15}
		}
		switch x.Kind {
		case api.InsJump, api.InsZero, api.InsOther:
			x.K = int64(r.Intn(len(l)))
		case api.InsConst, api.InsLoad, api.InsStore:
			x.K = int64(r.Uint64()) >> r.Intn(64)
		case api.InsInto:
			x.C = r.Intn(4)
		}
		l[i] = x
	}
	l[len(l)-1] = []api.Ins{{Kind: api.InsHalt}, {Kind: api.InsFail, A: r.Intn(16)}, {Kind: api.InsJump, K: int64(r.Intn(len(l)))}}[r.Intn(3)]
	return l
}
