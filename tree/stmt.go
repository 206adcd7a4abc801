package tree

import (
	"outrider/api"
)

// text: the statements up to the end.
func (p *parser) text() []api.Stmt {
	var l []api.Stmt
	for p.look().Kind != api.TokEnd {
		l = append(l, p.stmt())
	}
	return l
}

func (p *parser) stmt() api.Stmt {
	if p.look().Kind == api.TokName {
		return p.set()
	}
	switch p.look().Text {
	case "var":
		return p.declare()
	case "m":
		return p.store()
	case "emit":
		return p.tell(api.StmtEmit)
	case "fail":
		return p.tell(api.StmtFail)
	case "into":
		return p.into()
	case "stop":
		return p.stop()
	case "if":
		return p.choose()
	case "while":
		return p.repeat()
	}
	p.cannotStand()
	return api.Stmt{}
}

func (p *parser) set() api.Stmt {
	name := p.next()
	return p.makeStmt(name, api.Stmt{Kind: api.StmtSet, Name: name.Text}, p.value())
}

func (p *parser) declare() api.Stmt {
	word := p.next()
	name := p.takeKind(api.TokName)
	return p.makeStmt(word, api.Stmt{Kind: api.StmtVar, Name: name.Text}, p.value())
}

func (p *parser) store() api.Stmt {
	word := p.next()
	address := p.within("[", "]")
	return p.makeStmt(word, api.Stmt{Kind: api.StmtStore}, address, p.value())
}

// tell: emit or fail.
func (p *parser) tell(kind api.StmtKind) api.Stmt {
	return p.makeStmt(p.next(), api.Stmt{Kind: kind}, p.last())
}

func (p *parser) into() api.Stmt {
	word := p.next()
	if p.look().Num > lastCell {
		p.cannotStand()
	}
	cell := p.takeKind(api.TokNum)
	return p.makeStmt(word, api.Stmt{Kind: api.StmtInto, Cell: int(cell.Num)}, p.last())
}

func (p *parser) stop() api.Stmt {
	word := p.next()
	p.take(";")
	return p.makeStmt(word, api.Stmt{Kind: api.StmtStop})
}

// choose: an if, with the else behind it.
func (p *parser) choose() api.Stmt {
	word := p.next()
	test := p.within("(", ")")
	s := api.Stmt{Kind: api.StmtIf, Body: p.block()}
	if p.looksAt("else") {
		p.next()
		s.Else = p.other()
	}
	return p.makeStmt(word, s, test)
}

// other: what stands behind an else; an if there counts as a block.
func (p *parser) other() []api.Stmt {
	if !p.looksAt("if") {
		return p.block()
	}
	p.enters(p.look())
	s := p.choose()
	p.blocks--
	return []api.Stmt{s}
}

func (p *parser) repeat() api.Stmt {
	word := p.next()
	test := p.within("(", ")")
	return p.makeStmt(word, api.Stmt{Kind: api.StmtWhile, Body: p.block()}, test)
}

func (p *parser) block() []api.Stmt {
	p.enters(p.take("{"))
	var l []api.Stmt
	for !p.looksAt("}") {
		l = append(l, p.stmt())
	}
	p.next()
	p.blocks--
	return l
}

// value: what stands behind a statement's =.
func (p *parser) value() part {
	p.take("=")
	return p.last()
}

// last: a statement's last expression, with the ; behind it.
func (p *parser) last() part {
	e := p.expr(weakest)
	p.take(";")
	return e
}

// makeStmt: a statement of parts that have been read; t is its token.
func (p *parser) makeStmt(t api.Token, s api.Stmt, parts ...part) api.Stmt {
	for _, x := range parts {
		s.Args = append(s.Args, x.expr)
	}
	p.count(t)
	return s
}
