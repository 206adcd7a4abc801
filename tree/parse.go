package tree

import (
	"outrider/api"
	"outrider/lex"
)

// fault is what a parser gives up with: an error, and its place.
type fault struct {
	at int
	no api.Errno
}

// parser reads tokens from the left; the last one is the end, which is never read.
type parser struct {
	tokens []api.Token
	open   int // the ( and [ that aren't shut, and the signs of one number whose expression isn't made
	blocks int // that what is read lies within
	nodes  int // that are made
}

// Parse: the statements of a source text; or the first fault that is come to, and its place.
func Parse(s string) (l []api.Stmt, at int, e api.Errno) {
	defer func() {
		if f, is := recover().(fault); is {
			l, at, e = nil, f.at, f.no
		}
	}()
	tokens, at, e := lex.Cut(s)
	if e != api.OK {
		return nil, at, e
	}
	p := &parser{tokens: tokens}
	return p.text(), 0, api.OK
}

// giveUp goes straight back to Parse, from however deep within.
func giveUp(at int, no api.Errno) {
	panic(fault{at, no})
}

func (p *parser) look() api.Token {
	return p.tokens[0]
}

func (p *parser) looksAt(text string) bool {
	return p.look().Text == text
}

func (p *parser) next() api.Token {
	t := p.tokens[0]
	p.tokens = p.tokens[1:]
	return t
}

// cannotStand gives up at the token that is looked at.
func (p *parser) cannotStand() {
	giveUp(p.look().At, api.ErrToken)
}

// take: the sign or word that must stand here; a text is enough to know it by, since no token of another kind has it.
func (p *parser) take(text string) api.Token {
	if !p.looksAt(text) {
		p.cannotStand()
	}
	return p.next()
}

func (p *parser) takeKind(kind api.TokKind) api.Token {
	if p.look().Kind != kind {
		p.cannotStand()
	}
	return p.next()
}

// opens takes a bracket, or a sign of one number, that stays open till shut is called.
func (p *parser) opens(text string) api.Token {
	t := p.take(text)
	p.open++
	if p.open > api.MaxDeep {
		giveUp(t.At, api.ErrNest)
	}
	return t
}

func (p *parser) shuts(text string) {
	p.take(text)
	p.open--
}

// enters: what is read from here on lies within one more block, whose token is t.
func (p *parser) enters(t api.Token) {
	if p.blocks >= api.MaxBlock {
		giveUp(t.At, api.ErrNest)
	}
	p.blocks++
}

// count counts a node, whose token is t.
func (p *parser) count(t api.Token) {
	p.nodes++
	if p.nodes > api.MaxNodes {
		giveUp(t.At, api.ErrMany)
	}
}
