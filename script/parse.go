package script

import (
	"slices"

	"outrider/api"
	"outrider/num"
)

// mostOpen: how many brackets may be open at one time.
const mostOpen = 8

// fault is what a reader gives up with: an error, and its place.
type fault struct {
	at int
	no api.Errno
}

// reader goes through a text from the left.
type reader struct {
	text    string
	at      int // the first byte that isn't read yet
	open    int // brackets
	entries []api.Entry
}

// Parse: the entries of a text; or the first fault from the left, and its place.
func Parse(s string) (l []api.Entry, at int, e api.Errno) {
	defer func() {
		if f, is := recover().(fault); is {
			l, at, e = nil, f.at, f.no
		}
	}()
	if len(s) > api.MaxText {
		giveUp(0, api.ErrLong)
	}
	r := &reader{text: s}
	r.items()
	return slices.Clip(r.entries), 0, api.OK
}

// giveUp goes straight back to Parse, from however deep within.
func giveUp(at int, no api.Errno) {
	panic(fault{at, no})
}

// cannotStand gives up at the byte that is looked at.
func (r *reader) cannotStand() {
	giveUp(r.at, api.ErrScript)
}

func (r *reader) ended() bool {
	return r.at == len(r.text)
}

func (r *reader) looksAt(b byte) bool {
	return !r.ended() && r.text[r.at] == b
}

// take goes behind a byte, if it stands here.
func (r *reader) take(b byte) bool {
	is := r.looksAt(b)
	if is {
		r.at++
	}
	return is
}

// gather: the bytes from here on, as far as belongs says that they belong to what is gathered.
func (r *reader) gather(belongs func(b byte) bool) string {
	from := r.at
	for !r.ended() && belongs(r.text[r.at]) {
		r.at++
	}
	return r.text[from:r.at]
}

// items: all of them up to the end, or up to the bracket that shuts the one in which they stand.
func (r *reader) items() {
	from := len(r.entries)
	for r.skip(); !r.ended() && !(r.open > 0 && r.looksAt(closing)); r.skip() {
		r.item(from)
	}
}

func (r *reader) skip() {
	r.gather(func(b byte) bool { return b == blank || b == lineEnd })
}

// item: one, as often as it says; the entries of its brackets begin at from. These alone are held to what a script may have:
// how often the brackets around them say that they stand, perhaps not once, is read later.
func (r *reader) item(from int) {
	begin := len(r.entries)
	r.once()
	behind, times := r.at, 1
	if r.take(timesSign) {
		times = r.number()
	}
	made := r.entries[begin:]
	if num.Plus(begin-from, num.Times(len(made), times)) > api.MaxScript {
		giveUp(behind, api.ErrRepeat)
	}
	if times != 1 { // else all brackets around it would copy it once more
		r.entries = append(r.entries[:begin], slices.Repeat(made, times)...)
	}
}

// once: an item without its number of times.
func (r *reader) once() {
	if r.looksAt(opening) {
		r.brackets()
		return
	}
	abort := r.take(abortSign)
	r.entries = append(r.entries, api.Entry{Worker: r.number(), Abort: abort})
}

func (r *reader) brackets() {
	if r.open == mostOpen {
		r.cannotStand()
	}
	r.take(opening)
	r.open++
	r.items()
	if !r.take(closing) {
		r.cannotStand()
	}
	r.open--
}

// number: the one whose digits stand here; without digits the fault is here, too.
func (r *reader) number() int {
	from := r.at
	n, e := num.Parse(r.gather(func(b byte) bool { return b >= '0' && b <= '9' }))
	if e != api.OK || n >= numbersEnd {
		giveUp(from, api.ErrScript)
	}
	return int(n)
}
