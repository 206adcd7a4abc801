package lex

import (
	"outrider/api"
	"outrider/num"
)

// fault is what a cutter gives up with: an error, and its place.
type fault struct {
	at int
	no api.Errno
}

// cutter goes through a text from the left.
type cutter struct {
	text string
	at   int // the first byte that isn't cut yet
}

// Cut: the tokens of a text, the end with them; or the first fault from the left, and its place.
func Cut(s string) (l []api.Token, at int, e api.Errno) {
	defer func() {
		if f, is := recover().(fault); is {
			l, at, e = nil, f.at, f.no
		}
	}()
	if len(s) > api.MaxText {
		giveUp(0, api.ErrLong)
	}
	c := cutter{text: s}
	return c.all(), 0, api.OK
}

// giveUp goes straight back to Cut.
func giveUp(at int, no api.Errno) {
	panic(fault{at, no})
}

func (c *cutter) all() []api.Token {
	var l []api.Token
	for c.skip(); !c.ended(); c.skip() {
		l = append(l, c.token())
	}
	return append(l, api.Token{Kind: api.TokEnd, At: c.at})
}

func (c *cutter) ended() bool {
	return c.at == len(c.text)
}

// gather: the bytes from here on, as far as belongs says that they belong to what is gathered.
func (c *cutter) gather(belongs func(b byte) bool) string {
	from := c.at
	for !c.ended() && belongs(c.text[c.at]) {
		c.at++
	}
	return c.text[from:c.at]
}

// skip goes behind blanks and remarks.
func (c *cutter) skip() {
	remark := false
	c.gather(func(b byte) bool {
		remark = b == '#' || remark && b != '\n'
		return remark || isBlank(b)
	})
}

func (c *cutter) token() api.Token {
	switch b := c.text[c.at]; {
	case isDigit(b):
		return c.number()
	case isLetter(b):
		return c.word()
	}
	return c.sign()
}

func (c *cutter) number() api.Token {
	t := api.Token{Kind: api.TokNum, At: c.at}
	t.Text = c.gather(isDigit)
	n, e := num.Parse(t.Text)
	if e != api.OK {
		giveUp(t.At, api.ErrNum)
	}
	if !c.ended() && isLetter(c.text[c.at]) {
		giveUp(c.at, api.ErrByte)
	}
	t.Num = n
	return t
}

// word: one of the language's own words, or a name.
func (c *cutter) word() api.Token {
	t := api.Token{Kind: api.TokName, At: c.at}
	t.Text = c.gather(func(b byte) bool { return isLetter(b) || isDigit(b) })
	if Words(t.Text) {
		t.Kind = api.TokWord
	} else if len(t.Text) > api.MaxName {
		giveUp(t.At, api.ErrName)
	}
	return t
}

// sign: the longest one from here on; each longer sign begins with a shorter one, so that it can be gathered byte by byte.
func (c *cutter) sign() api.Token {
	t := api.Token{Kind: api.TokSign, At: c.at}
	var row []byte
	t.Text = c.gather(func(b byte) bool {
		row = append(row, b)
		return isSign(string(row))
	})
	if t.Text == "" {
		giveUp(t.At, api.ErrByte)
	}
	return t
}
