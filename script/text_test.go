package script

import (
	"math"
	"slices"
	"strings"
	"testing"

	"outrider/api"
)

// picks: entries that pick these workers.
func picks(workers ...int) []api.Entry {
	var l []api.Entry
	for _, w := range workers {
		l = append(l, api.Entry{Worker: w})
	}
	return l
}

func abort(w int) api.Entry {
	return api.Entry{Worker: w, Abort: true}
}

// writes: entries have this text, or this error.
func writes(t *testing.T, l []api.Entry, want string, e api.Errno) {
	t.Helper()
	was := slices.Clone(l)
	if s, no := Text(l); s != want || no != e {
		t.Errorf("%.60s: %.60q, %v, not %.60q, %v", shown(l), s, no, want, e)
	}
	if !slices.Equal(was, l) {
		t.Error("the entries were changed")
	}
}

// P25.2: rows of entries that are the same
func TestText(t *testing.T) {
	writes(t, nil, "", api.OK)
	writes(t, []api.Entry{}, "", api.OK)
	writes(t, picks(0), "0", api.OK)
	writes(t, picks(0, 0), "0*2", api.OK)
	writes(t, picks(0, 1, 0, 1), "0 1 0 1", api.OK)
	writes(t, picks(3, 3, 3, 12, 12, 3), "3*3 12*2 3", api.OK)
	writes(t, append(picks(0, 1, 1), abort(0)), "0 1*2 !0", api.OK)
	writes(t, []api.Entry{abort(1), abort(1), {Worker: 1}, {Worker: 1}, {Worker: 1}, abort(1), abort(2), abort(2)}, "!1*2 1*3 !1 !2*2", api.OK)
	writes(t, picks(1, 11, 1, 11), "1 11 1 11", api.OK)
	writes(t, slices.Repeat(picks(5), 10), "5*10", api.OK)
	writes(t, append(picks(2147483647, 2147483647), abort(2147483647)), "2147483647*2 !2147483647", api.OK)
}

// P25.2: too many entries; workers that can't be told
func TestTextRefuses(t *testing.T) {
	most := slices.Repeat(picks(1), api.MaxScript)
	writes(t, most, "1*40000", api.OK)
	writes(t, append(slices.Clone(most), picks(1)...), "", api.ErrRepeat)
	writes(t, append(slices.Clone(most), picks(2)...), "", api.ErrRepeat)
	writes(t, slices.Repeat(picks(-1), api.MaxScript+1), "", api.ErrRepeat)
	writes(t, slices.Repeat(picks(0, 1), api.MaxScript), "", api.ErrRepeat)
	for _, w := range []int{-1, -2, -2147483648, math.MinInt, 2147483648, 2147483649, 4294967296, math.MaxInt} {
		writes(t, picks(w), "", api.ErrScript)
		writes(t, picks(0, 1, w), "", api.ErrScript)
		writes(t, picks(w, 1), "", api.ErrScript)
		writes(t, []api.Entry{{}, abort(w)}, "", api.ErrScript)
		writes(t, append(slices.Repeat(picks(0, 1), api.MaxScript/2-1), picks(0, w)...), "", api.ErrScript)
		writes(t, append(most[1:], picks(w)...), "", api.ErrScript)
	}
}

// P25.2: texts of MaxText bytes and of one more
func TestTextLong(t *testing.T) {
	l := slices.Repeat(picks(1, 2), api.MaxText/4-1) // a blank less than 2 bytes each
	l = append(l, picks(1)...)
	s := strings.Repeat("1 2 ", api.MaxText/4-1) + "1"
	writes(t, l, s, api.OK)
	if len(s) != api.MaxText-3 {
		t.Fatal(len(s))
	}
	writes(t, append(slices.Clone(l), picks(10)...), s+" 10", api.OK)
	writes(t, append(slices.Clone(l), abort(1)), s+" !1", api.OK)
	writes(t, append(slices.Clone(l), picks(1, 1)...), s+"*3", api.OK)
	writes(t, append(slices.Clone(l), picks(100)...), "", api.ErrLong)
	writes(t, append(slices.Clone(l), abort(10)), "", api.ErrLong)
	writes(t, append(slices.Clone(l), picks(1, 1, 2)...), "", api.ErrLong)
	writes(t, append(slices.Clone(l), slices.Repeat(picks(1), 98)...), s+"*99", api.OK)
	writes(t, append(slices.Clone(l), slices.Repeat(picks(1), 99)...), "", api.ErrLong)
	writes(t, slices.Repeat(picks(1, 2), api.MaxScript/2), "", api.ErrLong)
	writes(t, slices.Repeat(picks(1, 2, 2), api.MaxScript/3), "", api.ErrLong)
}

// P25.2, rule 5: what lies behind a list's length isn't read
func TestTextBehind(t *testing.T) {
	l := picks(1, 1, 1, -4)
	writes(t, l[:2], "1*2", api.OK)
	writes(t, l[:0], "", api.OK)
	if l[2].Worker != 1 || l[3].Worker != -4 {
		t.Error("what lies behind was changed:", l)
	}
}
