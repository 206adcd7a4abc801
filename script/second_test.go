package script

import (
	"math/big"
	"regexp"
	"slices"

	"outrider/api"
)

// second is another way of reading texts: byte by byte, each told what the bytes ahead of it have left, without calling itself.
type second struct {
	lists  [][]api.Entry // of what is open, the text itself first
	item   []api.Entry   // that has been read, and may yet have a number of times
	behind int           // where the item ends
	digits string
	first  int   // the place of the first digit
	abort  bool  // the number is that of an abort
	state  state // what has been read last
}

type state int

const (
	between state = iota // nothing, a blank, a bracket that opens
	bang                 // !
	worker               // digits of an entry
	shut                 // a bracket that shuts
	star                 // *
	times                // digits behind that
)

var aNumber = regexp.MustCompile(`^(0|[1-9][0-9]*)$`)

// value: of the digits so far; false, if they are no number, or too great.
func (x *second) value() (int64, bool) {
	n, _ := new(big.Int).SetString(x.digits, 10)
	if !aNumber.MatchString(x.digits) || n.BitLen() > 31 {
		return 0, false
	}
	return n.Int64(), true
}

// close: what has been read is an item's end; of those that it is too many with, false.
func (x *second) close(often int64) bool {
	top := len(x.lists) - 1
	many := new(big.Int).Mul(big.NewInt(int64(len(x.item))), big.NewInt(often))
	many.Add(many, big.NewInt(int64(len(x.lists[top]))))
	if many.Cmp(big.NewInt(40000)) > 0 {
		return false
	}
	x.lists[top] = append(x.lists[top], slices.Repeat(x.item, int(often))...)
	return true
}

// settle: what digits and items say that end ahead of this place; starred tells whether * stands there.
func (x *second) settle(at int, starred bool) (int, api.Errno) {
	if x.state == bang || x.state == star {
		return at, api.ErrScript
	}
	often := int64(1)
	if x.state == worker || x.state == times {
		n, is := x.value()
		if !is {
			return x.first, api.ErrScript
		}
		if x.state == worker {
			x.item, x.behind = []api.Entry{{Worker: int(n), Abort: x.abort}}, at
		} else {
			often = n
		}
	}
	if x.state == between || x.state != times && starred {
		return 0, api.OK
	}
	if !x.close(often) {
		return x.behind, api.ErrRepeat
	}
	return 0, api.OK
}

func secondParse(s string) ([]api.Entry, int, api.Errno) {
	if len(s) > 8192 {
		return nil, 0, api.ErrLong
	}
	x := &second{lists: make([][]api.Entry, 1)}
	for at := range len(s) {
		if place, e := x.byte(at, s[at]); e != api.OK {
			return nil, place, e
		}
	}
	if place, e := x.settle(len(s), false); e != api.OK {
		return nil, place, e
	}
	if len(x.lists) > 1 {
		return nil, len(s), api.ErrScript
	}
	return x.lists[0], 0, api.OK
}

func (x *second) byte(at int, b byte) (int, api.Errno) {
	if b >= '0' && b <= '9' {
		return x.digit(at, b)
	}
	was := x.state
	if place, e := x.settle(at, b == '*'); e != api.OK {
		return place, e
	}
	x.state = between
	switch {
	case b == ' ' || b == '\n':
	case b == '!':
		x.state = bang
	case b == '*' && (was == worker || was == shut):
		x.state = star
	case b == '(' && len(x.lists) < 9:
		x.lists = append(x.lists, nil)
	case b == ')' && len(x.lists) > 1:
		top := len(x.lists) - 1
		x.item, x.behind, x.lists, x.state = x.lists[top], at+1, x.lists[:top], shut
	default:
		return at, api.ErrScript
	}
	return 0, api.OK
}

func (x *second) digit(at int, b byte) (int, api.Errno) {
	if x.state == worker || x.state == times {
		x.digits += string(b)
		return 0, api.OK
	}
	was := x.state
	if was == between || was == shut {
		if place, e := x.settle(at, false); e != api.OK {
			return place, e
		}
	}
	x.digits, x.first, x.abort, x.state = string(b), at, was == bang, worker
	if was == star {
		x.state = times
	}
	return 0, api.OK
}

// secondRounds: the shortest beginning in which all are picked is a round, as long as there is one.
func secondRounds(l []api.Entry, workers int) (int, int) {
	rounds, aborts := 0, 0
	for _, e := range l {
		if e.Abort {
			aborts++
		}
	}
	for {
		end := 0
		for w := range workers {
			at := slices.Index(l, api.Entry{Worker: w})
			if at < 0 {
				return rounds, aborts
			}
			end = max(end, at+1)
		}
		l = l[end:]
		rounds++
	}
}
