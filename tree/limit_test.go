package tree

import (
	"strings"
	"testing"

	"outrider/api"
)

func times(n int, s string) string { return strings.Repeat(s, n) }

// P4.1: MaxDeep brackets and signs are open, and one more
func TestParseOpen(t *testing.T) {
	for _, c := range []struct{ ahead, each, behind string }{
		{"emit ", "(", "1"}, {"emit ", "m[", "1"}, {"emit ", "-", "1"}, {"emit ", "~", "1"}, {"emit ", "!", "1"}, {"emit ", "min(", "1"}, {"emit ", "max(1,", "1"},
		{"x = ", "(", "1"}, {"var x = ", "(", "1"}, {"into 3 ", "(", "1"}, {"fail ", "(", "1"}, {"m[1] = ", "(", "1"},
		{"emit (((1))) + ", "(", "1"}, {"emit m[m[m[1]]] + -~1 * ", "(", "1"}, {"emit min(1, -2) + ", "(", "1"},
		{"if (((1))) { m[((1))] = 2; emit ", "(", "1"}, {"while (((1))) { } emit ", "-", "1"},
		{"emit -1 + ", "-", "1"},
	} {
		s := c.ahead + times(48, c.each)
		fails(t, s+"}", len(s), api.ErrToken)
		last := len(s) + strings.IndexAny(c.each, "([-~!")
		fails(t, s+c.each+c.behind, last, api.ErrNest)
		fails(t, s+c.each+"}", last, api.ErrNest)
	}
	for _, c := range []struct{ ahead, each string }{
		{"if (", "("}, {"while (", "-"}, {"m[", "m["}, {"if (a) { } else if (", "!"}, {"while (1) { if (", "min("}, {"emit (", "m["}, {"emit -", "("}, {"emit min(1,", "~"}, {"emit m[", "-"},
	} {
		s := c.ahead + times(47, c.each)
		fails(t, s+"}", len(s), api.ErrToken)
		fails(t, s+c.each+"}", len(s)+strings.IndexAny(c.each, "([-~!"), api.ErrNest)
	}
	parses(t, "emit "+times(48, "(")+"1"+times(48, ")")+";")
	parses(t, "if ("+times(47, "(")+"1"+times(48, ")")+" { emit "+times(48, "(")+"1"+times(48, ")")+"; }")
	parses(t, "m["+times(47, "(")+"1"+times(47, ")")+"] = "+times(48, "(")+"1"+times(48, ")")+";")
	parses(t, "emit "+times(46, "-")+"1 + "+times(46, "-")+"1;")
	fails(t, "emit 1 "+times(60, "("), 7, api.ErrToken)
	fails(t, "emit "+times(48, "(")+"m(", 54, api.ErrToken)
	fails(t, "emit "+times(48, "(")+"m[", 54, api.ErrNest)
}

// P4.1: an expression of depth MaxDeep, and one more
func TestParseDepth(t *testing.T) {
	plus := "emit 1" + times(47, "+1")
	parses(t, plus+";")
	fails(t, plus+"+1;", len(plus), api.ErrNest)
	fails(t, plus+"+1+1+1;", len(plus), api.ErrNest)
	parses(t, plus+"*1;")
	fails(t, plus+"|1;", len(plus), api.ErrNest)
	fails(t, plus+"+1}", len(plus), api.ErrNest)
	fails(t, plus+"+;", len(plus)+1, api.ErrToken)
	fails(t, "emit 1*("+plus[5:]+"+1);", len(plus)+3, api.ErrNest)
	fails(t, "emit 1*("+plus[5:]+");", 6, api.ErrNest)
	fails(t, "emit ("+plus[5:]+")*1;", len(plus)+2, api.ErrNest)
	parses(t, "emit ("+plus[5:]+");")
	fails(t, "emit -("+plus[5:]+");", 5, api.ErrNest)
	fails(t, "emit m["+plus[5:]+"];", 5, api.ErrNest)
	fails(t, "emit m["+plus[5:]+";", len(plus)+2, api.ErrToken)
	fails(t, "emit min("+plus[5:]+", 2);", 5, api.ErrNest)
	fails(t, "emit max(2, "+plus[5:]+");", 5, api.ErrNest)
	fails(t, "emit max(2, "+plus[5:]+";", len(plus)+7, api.ErrToken)
	parses(t, "m["+plus[5:]+"] ="+plus[4:]+";")

	parses(t, "emit "+times(47, "-")+"1;")
	fails(t, "emit "+times(48, "-")+"1;", 5, api.ErrNest)
	fails(t, "emit 7 + "+times(48, "!")+"x;", 9, api.ErrNest)
	parses(t, "emit "+times(47, "m[")+"1"+times(47, "]")+";")
	fails(t, "emit "+times(48, "m[")+"1"+times(48, "]")+";", 5, api.ErrNest)
	parses(t, "emit "+times(47, "min(1,")+"1"+times(47, ")")+";")
	fails(t, "emit "+times(48, "min(1,")+"1"+times(48, ")")+";", 5, api.ErrNest)
	fails(t, "emit "+times(48, "max(")+"1"+times(48, ",1)")+";", 5, api.ErrNest)
}

// P4.1: within MaxBlock - 1 other blocks a block may lie, within MaxBlock it may not
func TestParseBlocks(t *testing.T) {
	for _, each := range []string{"if (1) {", "while (1) {", "stop; if (1) { } else {", "if (1) { } while (1) {", "if (1) { } else { stop; } if (1) {"} {
		parses(t, times(12, each)+times(12, "}"))
		s := times(12, each)
		first := len(s) + strings.Index(each, "{")
		fails(t, s+each, first, api.ErrNest)
		fails(t, s+"if (1) [", len(s)+7, api.ErrToken)
	}
	eleven, shut := times(11, "while (1) {"), times(11, "}")
	parses(t, eleven+"if (1) { } else { }"+shut)
	parses(t, eleven+"if (1) { stop; } else { stop; }"+shut)
	fails(t, eleven+"if (1) { } else { if (1) { } }"+shut, len(eleven)+25, api.ErrNest)
	fails(t, eleven+"if (1) { } else if (1) { }"+shut, len(eleven)+23, api.ErrNest)
	ten := eleven[11:]
	parses(t, ten+"if (1) { } else if (1) { }"+shut[1:])
	parses(t, ten+"if (1) { } else if (1) { } else { }"+shut[1:])
	fails(t, ten+"if (1) { } else if (1) { } else { if (1) {", len(ten)+41, api.ErrNest)
	fails(t, ten+"if (1) { } else if (1) { } else if (1) { }", len(ten)+39, api.ErrNest)
	fails(t, ten+"if (1) { } else if (1) { } else if (1) }", len(ten)+39, api.ErrToken)

	chain := "if (1) { }" + times(11, " else if (1) { }")
	parses(t, chain)
	parses(t, chain+" else { }")
	parses(t, chain+chain)
	fails(t, chain+" else if (1) { }", len(chain)+13, api.ErrNest)
	fails(t, chain+" else if (1;", len(chain)+11, api.ErrToken)
	whole := times(12, "while (1) {") + "if (1) "
	fails(t, whole+"{ } else { }", len(whole), api.ErrNest)
	fails(t, eleven+"if (1) { } else if (1) else", len(eleven)+23, api.ErrToken)
	twelve := times(11, "if (1) { } else {") + "if (1) { } else "
	parses(t, twelve+"{ }"+shut)
	fails(t, twelve+"if (1) { }", len(twelve)+7, api.ErrNest)
	nested := times(12, "if (1) { } else {")
	fails(t, nested+"if (1) { }", len(nested)+7, api.ErrNest)
}

// P4.1: the 600th and the 601st node, each kind of node as the last one
func TestParseMany(t *testing.T) {
	for _, c := range []struct {
		s  string // a statement
		at int    // the token of the last node that is made of it
	}{
		{"stop;", 0}, {"emit 1;", 0}, {"x = 1;", 0}, {"var x = 1;", 0}, {"m[1] = 2;", 0}, {"fail 1 + 2;", 0}, {"into 2 3;", 0},
		{"if (1) { }", 0}, {"while (1) { stop; }", 0}, {"if (1) { stop; } else { stop; }", 0}, {"if (1) { } else if (2) { stop; }", 0},
	} {
		l := parses(t, c.s)
		many := Nodes(l)
		ahead := times(api.MaxNodes-many, "stop;")
		if l := parses(t, ahead+c.s); Nodes(l) != api.MaxNodes || !Right(l) {
			t.Error(c.s, Nodes(l))
		}
		fails(t, "stop;"+ahead+c.s, len(ahead)+5+c.at, api.ErrMany)
		fails(t, "stop;"+ahead+c.s+"}", len(ahead)+5+c.at, api.ErrMany)
		short := c.s[:len(c.s)-1]
		fails(t, "stop;"+ahead+short, len(ahead)+5+len(short), api.ErrToken)
	}
	full := times(599, "stop;")
	for _, c := range []struct {
		many int // nodes ahead
		s    string
		at   int
		e    api.Errno
	}{
		{600, "emit 7;", 5, api.ErrMany}, {600, "emit x", 5, api.ErrMany}, {600, "emit;", 4, api.ErrToken}, {600, "emit (((7", 8, api.ErrMany},
		{599, "emit 7;", 0, api.ErrMany}, {599, "emit 7", 6, api.ErrToken}, {599, "emit -7;", 5, api.ErrMany}, {599, "emit -7", 5, api.ErrMany}, {599, "emit -;", 6, api.ErrToken},
		{599, "emit m[7];", 5, api.ErrMany}, {599, "emit m[7;", 8, api.ErrToken}, {599, "emit (7) + (8);", 12, api.ErrMany},
		{598, "emit 7 + 8;", 7, api.ErrMany}, {598, "emit 7 + 8", 7, api.ErrMany}, {598, "emit 7 + 8 }", 7, api.ErrMany}, {598, "emit (7 + 8];", 8, api.ErrMany}, {598, "emit 7 + 8 * 9;", 13, api.ErrMany}, {598, "emit 7 * 8 + 9;", 7, api.ErrMany},
		{598, "emit min(7, 8);", 5, api.ErrMany}, {598, "emit min(7, 8;", 13, api.ErrToken}, {598, "emit max(7, 8);", 5, api.ErrMany},
		{597, "emit 7 + 8;", 0, api.ErrMany}, {597, "emit 7 + 8", 10, api.ErrToken}, {597, "emit 7 + 8 * 9;", 11, api.ErrMany}, {597, "emit 7 + 8 + 9;", 13, api.ErrMany},
		{596, "emit 7 + 8 * 9;", 7, api.ErrMany}, {596, "emit 7 + 8 - 9;", 11, api.ErrMany},
		{599, "m[1] = 2;", 7, api.ErrMany}, {598, "m[1] = 2;", 0, api.ErrMany},
		{598, "if (1) { stop; }", 0, api.ErrMany}, {598, "if (1) { stop; stop; }", 15, api.ErrMany}, {599, "if (1) { } else { }", 0, api.ErrMany}, {598, "if (1) { } else if (2) { }", 16, api.ErrMany}, {597, "if (1) { } else if (2) { }", 0, api.ErrMany}, {597, "if (1) { } else if (2) { } )", 0, api.ErrMany}, {597, "if (1) { } else if (2) { ", 25, api.ErrToken},
		{599, "while (1) { }", 0, api.ErrMany}, {599, "while (1) { stop; }", 12, api.ErrMany}, {599, "into 255 1;", 0, api.ErrMany},
	} {
		ahead := times(c.many, "stop;")
		fails(t, ahead+c.s, len(ahead)+c.at, c.e)
	}
	parses(t, full+"stop;")
}

// P4.1: where both apply, ErrNest is ahead of ErrMany
func TestParseNestAheadOfMany(t *testing.T) {
	plus := "emit 1" + times(48, "+1") // the last sign is the 97th node of it, and too deep
	deep := len(plus) - 2
	for _, c := range []struct {
		many, at int
		e        api.Errno
	}{{0, deep, api.ErrNest}, {503, deep, api.ErrNest}, {504, deep, api.ErrNest}, {505, deep + 1, api.ErrMany}, {506, deep - 2, api.ErrMany}} {
		ahead := times(c.many, "stop;")
		fails(t, ahead+plus+";", len(ahead)+c.at, c.e)
	}
	ahead := times(600, "stop;")
	fails(t, ahead+"emit "+times(49, "("), len(ahead)+53, api.ErrNest)
	fails(t, ahead+times(13, "if ("), len(ahead)+4, api.ErrToken)
	some := times(588, "stop;")
	fails(t, some+times(13, "while (1) {"), len(some)+139, api.ErrMany)
	some = times(587, "stop;")
	fails(t, some+times(13, "while (1) {"), len(some)+142, api.ErrNest)
	fails(t, some+times(12, "while (1) {")+"emit "+times(48, "-")+"1;", len(some)+132+52, api.ErrMany)
}
