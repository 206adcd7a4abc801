package job

import (
	"slices"
	"strings"

	"outrider/api"
	"outrider/asm"
	"outrider/gen"
	"outrider/tree"
)

// lineBlanks are what stands between the pieces of a line.
const lineBlanks = " \t\r"

// reader reads a job's text, line by line.
type reader struct {
	lines []string
	at    int // how many of them have been read
}

// Parse: the job of a text; or an error, and the line, from 1 on (0: none).
func Parse(s string) (j api.Job, line int, e api.Errno) {
	defer func() {
		if f, is := recover().(fault); is {
			j, line, e = api.Job{}, f.line, f.no
		}
	}()
	if len(s) > api.MaxText {
		giveUp(0, api.ErrLong)
	}
	r := &reader{lines: strings.Split(s, lineEnd)}
	j = r.text()
	if no := Valid(j); no != api.OK {
		giveUp(0, no)
	}
	return j, 0, api.OK
}

func (r *reader) text() api.Job {
	var j api.Job
	j.Words = int(r.row(wordsLine, aCount)[0])
	for r.looksAt(cellLine) {
		n := r.row(cellLine, aCount, aWord)
		j.Cells = append(j.Cells, api.Cell{At: int(n[0]), Value: n[1]})
	}
	for r.looksAt(redLine) {
		n := r.row(redLine, oneOf(operations()), aWord)
		j.Reds = append(j.Reds, api.Red{Op: api.RedOp(n[0]), Init: n[1]})
	}
	j.Fuel = int(r.row(fuelLine, aCount)[0])
	j.Shape = r.shape()
	for r.look() != nil {
		j.Codes = append(j.Codes, r.code(len(j.Reds)))
	}
	return j
}

func (r *reader) shape() api.Shape {
	if r.looksAt(pipeLine) {
		n := r.row(pipeLine, aCount, aCount)
		return api.Shape{Kind: api.ShapePipe, Items: int(n[0]), Stages: int(n[1])}
	}
	n := r.row(forLine, aWord, aWord, aWord)
	return api.Shape{Kind: api.ShapeFor, Lo: n[0], Hi: n[1], Step: n[2]}
}

// code: the instructions between curly brackets, whichever way they are told.
func (r *reader) code(cells int) []api.Ins {
	line, read := codeLine, listed
	if r.looksAt(taskLine) {
		line, read = taskLine, compiled
	}
	r.row(line, exactly(opening))
	opened := r.at
	text, is := r.upToClosing()
	if !is {
		giveUp(opened, api.ErrJob)
	}
	code, e := read(text, cells)
	if e != api.OK {
		giveUp(opened, e)
	}
	return code
}

func listed(text string, cells int) ([]api.Ins, api.Errno) {
	code, _, e := asm.Parse(text, cells)
	return code, e
}

func compiled(text string, cells int) ([]api.Ins, api.Errno) {
	l, _, e := tree.Parse(text)
	if e != api.OK {
		return nil, e
	}
	return gen.Compile(l, cells)
}

// upToClosing: the lines ahead of the bracket that shuts, and true; false, if there is none. They stay as they are: what a remark in them is, and a blank, isn't the job's to say.
func (r *reader) upToClosing() (string, bool) {
	left := r.lines[r.at:]
	many := slices.Index(left, closing)
	if many < 0 {
		return "", false
	}
	r.at += many + 1
	return strings.Join(left[:many], lineEnd), true
}

// look: the pieces of the next line that says something; none, if there is no such line.
func (r *reader) look() []string {
	for ; r.at < len(r.lines); r.at++ {
		ahead, _, _ := strings.Cut(r.lines[r.at], remark)
		if said := pieces(ahead, lineBlanks); len(said) > 0 {
			return said
		}
	}
	return nil
}

func (r *reader) looksAt(word string) bool {
	said := r.look()
	return said != nil && said[0] == word
}

// row: the line that must stand here: its word, and behind it a piece of each kind. It answers their numbers.
func (r *reader) row(word string, kinds ...kind) []int64 {
	said := r.look()
	if len(said) != len(kinds)+1 || said[0] != word {
		r.cannotStand()
	}
	var numbers []int64
	for i, k := range kinds {
		n, is := k(said[i+1])
		if !is {
			r.cannotStand()
		}
		numbers = append(numbers, n)
	}
	r.at++
	return numbers
}

// cannotStand gives up at the line that is looked at; at the last one, if the text has ended.
func (r *reader) cannotStand() {
	giveUp(min(r.at+1, len(r.lines)), api.ErrJob)
}
