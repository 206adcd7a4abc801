package tree

import (
	"outrider/api"
)

// weakest is the rank with which a whole expression begins: all signs bind at least so strongly.
const weakest = 1

// part is an expression with its depth, which is asked for as often as it becomes part of another.
type part struct {
	expr api.Expr
	deep int
}

// expr: the expression from here on, as far as its signs have that rank or a greater one.
func (p *parser) expr(least int) part {
	left := p.one()
	for {
		rank, op := Rank(p.look().Text)
		if rank < least {
			return left
		}
		sign := p.next()
		right := p.expr(rank + 1)
		left = p.makeExpr(sign, api.Expr{Kind: api.ExprTwo, Op: op}, left, right)
	}
}

func (p *parser) one() part {
	switch t := p.look(); t.Kind {
	case api.TokNum:
		return p.makeExpr(p.next(), api.Expr{Kind: api.ExprNum, Num: t.Num})
	case api.TokName:
		return p.makeExpr(p.next(), api.Expr{Kind: api.ExprName, Name: t.Text})
	}
	switch p.look().Text {
	case "(":
		return p.within("(", ")")
	case "m":
		return p.makeExpr(p.next(), api.Expr{Kind: api.ExprMem}, p.within("[", "]"))
	case "min":
		return p.pair(api.OpMin)
	case "max":
		return p.pair(api.OpMax)
	case "-":
		return p.signed(api.OpNeg)
	case "~":
		return p.signed(api.OpCom)
	case "!":
		return p.signed(api.OpNot)
	}
	p.cannotStand()
	return part{}
}

// within: the expression between two brackets.
func (p *parser) within(open, shut string) part {
	p.opens(open)
	e := p.expr(weakest)
	p.shuts(shut)
	return e
}

// pair: min or max of two.
func (p *parser) pair(op api.Op) part {
	word := p.next()
	p.opens("(")
	first := p.expr(weakest)
	p.take(",")
	second := p.expr(weakest)
	p.shuts(")")
	return p.makeExpr(word, api.Expr{Kind: api.ExprTwo, Op: op}, first, second)
}

// signed: an expression behind a sign of one number.
func (p *parser) signed(op api.Op) part {
	sign := p.opens(p.look().Text)
	e := p.makeExpr(sign, api.Expr{Kind: api.ExprOne, Op: op}, p.one())
	p.open--
	return e
}

// makeExpr: an expression of parts that have been read; t is its token.
func (p *parser) makeExpr(t api.Token, e api.Expr, parts ...part) part {
	made := part{expr: e, deep: 1}
	for _, x := range parts {
		made.expr.Args = append(made.expr.Args, x.expr)
		made.deep = max(made.deep, x.deep+1)
	}
	if made.deep > api.MaxDeep {
		giveUp(t.At, api.ErrNest)
	}
	p.count(t)
	return made
}
