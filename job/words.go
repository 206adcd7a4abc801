package job

import (
	"slices"
	"strings"

	"outrider/api"
	"outrider/num"
)

// What jobs' texts are made of, beside numbers.
const (
	wordsLine = "words"
	cellLine  = "cell"
	redLine   = "red"
	fuelLine  = "fuel"
	forLine   = "for"
	pipeLine  = "pipe"
	codeLine  = "code"
	taskLine  = "task"
	opening   = "{"
	closing   = "}"
	remark    = "#"
	blank     = " "
	lineEnd   = "\n"
)

// mostCount is the greatest count that a text may tell: it is above all limits, and no int goes round at it.
const mostCount = 1 << 31

// operations: of the reductions, from api.RedSum on.
func operations() []string {
	return []string{"sum", "prod", "min", "max", "and", "or", "xor"}
}

// policies: from api.Static on.
func policies() []string {
	return []string{"static", "dynamic", "guided"}
}

// kind tells the number that a piece of a text stands for, and whether it may stand there.
type kind func(piece string) (int64, bool)

func aWord(piece string) (int64, bool) {
	n, e := num.Parse(piece)
	return n, e == api.OK
}

// aCount: a number that can't be one becomes one that no job and no config has, so that these are refused, not the text.
func aCount(piece string) (int64, bool) {
	n, is := aWord(piece)
	if is && (n < 0 || n > mostCount) {
		n = -1
	}
	return n, is
}

func exactly(word string) kind {
	return func(piece string) (int64, bool) { return 0, piece == word }
}

// oneOf: the place of a piece among some words, from 1 on.
func oneOf(words []string) kind {
	return func(piece string) (int64, bool) {
		at := slices.Index(words, piece)
		return int64(at + 1), at >= 0
	}
}

// pieces: what stands between blanks.
func pieces(s, blanks string) []string {
	return strings.FieldsFunc(s, func(r rune) bool { return strings.ContainsRune(blanks, r) })
}

// fault is what a reader gives up with: an error, and its line.
type fault struct {
	line int
	no   api.Errno
}

// giveUp goes straight back to the face, from however deep within.
func giveUp(line int, no api.Errno) {
	panic(fault{line, no})
}
