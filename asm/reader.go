package asm

import (
	"strings"

	"outrider/api"
	"outrider/num"
)

// mostSmall is the greatest number that a listing may say of a register or a reduction; whether there is such a one is layer 8's to say.
const mostSmall = 255

// origin: the line of an instruction, and the label that it names, if it names one.
type origin struct {
	line  int
	label string
}

// reader gathers what the lines of a listing say.
type reader struct {
	code   []api.Ins
	from   []origin       // of each instruction
	places map[string]int // of each label
}

func newReader() *reader {
	return &reader{places: map[string]int{}}
}

// pieces: what stands between blanks, ahead of a remark. (These blanks are fewer than the library's.)
func pieces(line string) []string {
	said, _, _ := strings.Cut(line, remark)
	return strings.FieldsFunc(said, func(r rune) bool { return r == ' ' || r == '\t' || r == '\r' })
}

// line takes up what a line says.
func (r *reader) line(at int, said []string) api.Errno {
	if len(said) == 0 {
		return api.OK
	}
	if name, is := strings.CutSuffix(said[0], labelEnd); is && len(said) == 1 {
		return r.label(name)
	}
	return r.instruction(at, said[0], said[1:])
}

func (r *reader) label(name string) api.Errno {
	if !Label(name) {
		return api.ErrLine
	}
	if _, is := r.places[name]; is {
		return api.ErrLabel
	}
	r.places[name] = len(r.code)
	return api.OK
}

func (r *reader) instruction(at int, word string, said []string) api.Errno {
	s, is := meaning(word)
	if !is || len(said) != len(s.parts) {
		return api.ErrLine
	}
	x, o := s.bare, origin{line: at}
	for i, part := range s.parts {
		if !read(&x, &o, part, said[i]) {
			return api.ErrLine
		}
	}
	r.code, r.from = append(r.code, x), append(r.from, o)
	return api.OK
}

// aim turns the labels that are named into places: only now are all of them known. It answers the line of the first that there isn't.
func (r *reader) aim() (int, api.Errno) {
	for i, o := range r.from {
		if o.label == "" {
			continue
		}
		place, is := r.places[o.label]
		if !is {
			return o.line, api.ErrLabel
		}
		r.code[i].K = int64(place)
	}
	return 0, api.OK
}

// read: one piece becomes one part; false, if it can't be that.
func read(x *api.Ins, o *origin, part rune, said string) bool {
	is := false
	switch part {
	case aPart:
		x.A, is = register(said)
	case bPart:
		x.B, is = register(said)
	case cPart:
		x.C, is = register(said)
	case intoPart:
		x.C, is = small(said)
	case numberPart:
		x.K, is = number(said)
	case labelPart:
		o.label, is = said, Label(said)
	}
	return is
}

func register(said string) (int, bool) {
	digits, is := strings.CutPrefix(said, inRegister)
	if !is {
		return 0, false
	}
	return small(digits)
}

func small(said string) (int, bool) {
	n, is := number(said)
	if !is || n < 0 || n > mostSmall {
		return 0, false
	}
	return int(n), true
}

func number(said string) (int64, bool) {
	n, e := num.Parse(said)
	return n, e == api.OK
}
