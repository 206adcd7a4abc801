package script

import (
	"strings"

	"outrider/api"
	"outrider/num"
)

// What scripts' texts are made of, beside numbers.
const (
	abortSign = '!'
	timesSign = '*'
	opening   = '('
	closing   = ')'
	blank     = ' '
	lineEnd   = '\n'
)

// numbersEnd is the first number that is none in a script's text.
const numbersEnd = 1 << 31

// Text: the text of entries: what stands more than once in a row with * and how often.
func Text(l []api.Entry) (string, api.Errno) {
	if len(l) > api.MaxScript {
		return "", api.ErrRepeat
	}
	var items []string
	for len(l) > 0 {
		if int64(l[0].Worker) < 0 || int64(l[0].Worker) >= numbersEnd {
			return "", api.ErrScript
		}
		many := alike(l)
		items = append(items, item(l[0], many))
		l = l[many:]
	}
	s := strings.Join(items, string(blank))
	if len(s) > api.MaxText {
		return "", api.ErrLong
	}
	return s, api.OK
}

// alike: how many entries are the same as the first one, one behind the other.
func alike(l []api.Entry) int {
	for i, e := range l {
		if e != l[0] {
			return i
		}
	}
	return len(l)
}

// item: the text of an entry that stands so often in a row.
func item(e api.Entry, many int) string {
	s := num.Text(int64(e.Worker))
	if e.Abort {
		s = string(abortSign) + s
	}
	if many > 1 {
		s += string(timesSign) + num.Text(int64(many))
	}
	return s
}
