package show

import (
	"strings"

	"outrider/api"
	"outrider/num"
)

// indent stands ahead of a line for each block around it.
const indent = "  "

// writer gathers the lines of statements that are right: each has the Args that its Kind names.
type writer struct {
	text   strings.Builder
	blocks int // around the next line
}

func (w *writer) line(s string) {
	w.text.WriteString(strings.Repeat(indent, w.blocks))
	w.text.WriteString(s)
	w.text.WriteString("\n")
}

func (w *writer) stmts(l []api.Stmt) {
	for _, s := range l {
		w.stmt(s)
	}
}

func (w *writer) stmt(s api.Stmt) {
	switch s.Kind {
	case api.StmtIf:
		w.choice(s)
	case api.StmtWhile:
		w.line("while " + test(s))
		w.block(s.Body)
		w.line("}")
	default:
		w.line(oneLine(s) + ";")
	}
}

// block: lines with one more block around them.
func (w *writer) block(l []api.Stmt) {
	w.blocks++
	w.stmts(l)
	w.blocks--
}

// choice: an if; one that is all of its Else goes on in the line of the }, and so does what that one has as Else.
func (w *writer) choice(s api.Stmt) {
	w.line("if " + test(s))
	w.block(s.Body)
	for len(s.Else) == 1 && s.Else[0].Kind == api.StmtIf {
		s = s.Else[0]
		w.line("} else if " + test(s))
		w.block(s.Body)
	}
	if len(s.Else) > 0 {
		w.line("} else {")
		w.block(s.Else)
	}
	w.line("}")
}

// test: what stands behind an if or a while, up to its {.
func test(s api.Stmt) string {
	return "(" + exprText(s.Args[0]) + ") {"
}

// oneLine: a statement without blocks, up to its ;.
func oneLine(s api.Stmt) string {
	switch s.Kind {
	case api.StmtVar:
		return "var " + given(s.Name, s.Args[0])
	case api.StmtSet:
		return given(s.Name, s.Args[0])
	case api.StmtStore:
		return given(word(s.Args[0]), s.Args[1])
	case api.StmtEmit:
		return "emit " + exprText(s.Args[0])
	case api.StmtInto:
		return "into " + num.Text(int64(s.Cell)) + " " + exprText(s.Args[0])
	case api.StmtFail:
		return "fail " + exprText(s.Args[0])
	}
	return "stop"
}

func given(place string, value api.Expr) string {
	return place + " = " + exprText(value)
}
