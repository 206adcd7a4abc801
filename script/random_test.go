package script

import (
	"math/rand"
	"slices"
	"strconv"
	"strings"
	"testing"

	"outrider/api"
)

// maker makes texts and scripts at random.
type maker struct {
	*rand.Rand
}

func (r maker) blanks(least int) string {
	s := ""
	for range least + r.Intn(3)*r.Intn(2) {
		s += []string{" ", "\n"}[r.Intn(2)]
	}
	return s
}

// items: a text, and the entries that it means; none of its brackets has more than so many.
func (r maker) items(deep, most int) (string, []api.Entry) {
	var l []api.Entry
	text, digit := r.blanks(0), false
	for range r.Intn(5) {
		once, means := r.once(deep, most)
		times := []int{1, 1, 0, 2, 3, 1 + r.Intn(12), most / max(len(means), 1)}[r.Intn(7)]
		if len(l)+len(means)*times > most {
			times = 0
		}
		more := ""
		if times != 1 || r.Intn(9) == 0 {
			more = "*" + strconv.Itoa(times)
		}
		apart := 0
		if digit && once[0] >= '0' && once[0] <= '9' {
			apart = 1
		}
		text += r.blanks(apart) + once + more
		digit = text[len(text)-1] != ')'
		l = append(l, slices.Repeat(means, times)...)
	}
	return text + r.blanks(0), l
}

func (r maker) once(deep, most int) (string, []api.Entry) {
	if deep < 8 && r.Intn(3) == 0 {
		text, l := r.items(deep+1, most)
		return "(" + text + ")", l
	}
	x := api.Entry{Worker: []int{r.Intn(4), r.Intn(4), r.Intn(200), 1<<31 - 1 - r.Intn(2)}[r.Intn(4)], Abort: r.Intn(4) == 0}
	if x.Abort {
		return "!" + strconv.Itoa(x.Worker), []api.Entry{x}
	}
	return strconv.Itoa(x.Worker), []api.Entry{x}
}

// script: rows of what is the same, some long.
func (r maker) script() []api.Entry {
	var l []api.Entry
	for range r.Intn(30) {
		x := api.Entry{Worker: r.Intn(5), Abort: r.Intn(5) == 0}
		l = append(l, slices.Repeat([]api.Entry{x}, 1+r.Intn(3)*r.Intn(6))...)
	}
	return l
}

// like: both ways read the same in a text.
func like(t *testing.T, text string) api.Errno {
	t.Helper()
	l, at, e := Parse(text)
	m, place, no := secondParse(text)
	if e != no || at != place || !slices.Equal(l, m) {
		t.Fatalf("%q: %.60s, %d, %v, not %.60s, %d, %v", text, shown(l), at, e, shown(m), place, no)
	}
	return e
}

// P25.1: all texts of so many pieces, held against a second way of reading
func TestAllTexts(t *testing.T) {
	for _, c := range []struct {
		pieces string
		long   int
	}{
		{"0 1 * ! ( ) _ x", 6},
		{"0*40000 1 *2 *0 ( ) _", 4},
		{"0*20000 (1*39999 ) 1*20001 *2 _ *2147483648", 4},
		{"(((((((( )))))))) ( ) 1 *200", 5},
	} {
		pieces := strings.Fields(c.pieces)
		seen := map[api.Errno]int{}
		var all func(text string, left int)
		all = func(text string, left int) {
			seen[like(t, text)]++
			for _, piece := range pieces {
				if left > 0 {
					all(text+strings.ReplaceAll(piece, "_", " "), left-1)
				}
			}
		}
		all("", c.long)
		if seen[api.OK] < 30 || seen[api.ErrScript] < 100 {
			t.Error("too few of a kind:", seen)
		}
	}
}

// P25.1, P25.6: texts at random, of which it is known what they mean; and the same with a byte or two turned
func TestRandomTexts(t *testing.T) {
	r := maker{rand.New(rand.NewSource(25))}
	seen := map[api.Errno]int{}
	for range 15000 {
		most := []int{40, 400, 40000}[r.Intn(20)/10+r.Intn(60)/59]
		text, want := r.items(0, most)
		l, at, e := Parse(text)
		if e != api.OK || at != 0 || !slices.Equal(l, want) {
			t.Fatalf("%q: %s, %d, %v, not %s", text, shown(l), at, e, shown(want))
		}
		again(t, l)
		b := []byte(text)
		for range 1 + r.Intn(2) {
			if len(b) > 0 {
				b[r.Intn(len(b))] = "0123456789*!() \nx\t"[r.Intn(18)]
			}
		}
		seen[like(t, string(b))]++
		seen[like(t, text[:r.Intn(len(text)+1)])]++
		seen[like(t, text+strings.Repeat("9", r.Intn(4))+text)]++
	}
	if seen[api.OK] < 2000 || seen[api.ErrScript] < 2000 || seen[api.ErrRepeat] < 200 {
		t.Error("too few of a kind:", seen)
	}
}

// again, P25.6: a text that is written is parsed as its entries.
func again(t *testing.T, l []api.Entry) {
	t.Helper()
	was := slices.Clone(l)
	s, e := Text(l)
	if e == api.ErrLong && s == "" {
		return
	}
	m, at, no := Parse(s)
	if e != api.OK || len(s) > api.MaxText || no != api.OK || at != 0 || !slices.Equal(l, m) || !slices.Equal(l, was) {
		t.Fatalf("%.60q, %v: %.60s, %d, %v, not %.60s", s, e, shown(m), at, no, shown(l))
	}
	if strings.Contains(s, "*0") || strings.Contains(s, "*1 ") || strings.Contains(s, "  ") || strings.Trim(s, " ") != s {
		t.Fatalf("%q isn't written as P25.2 says", s)
	}
}

// P25.6: scripts at random, up to those whose text is too long
func TestWrittenAndRead(t *testing.T) {
	r := maker{rand.New(rand.NewSource(256))}
	for range 3000 {
		l := r.script()
		again(t, l)
		for i := range l {
			l[i].Worker *= 536870911 // up to 2147483644
		}
		again(t, l)
	}
	for many := 1; many < 2800; many += 90 {
		again(t, slices.Repeat([]api.Entry{{Worker: 1, Abort: true}, {Worker: 2}}, many))
	}
	again(t, slices.Repeat([]api.Entry{{Worker: 1, Abort: true}}, api.MaxScript))
}

// P25.3, P25.6: rounds, held against a second way of cutting; those of two scripts one behind the other
func TestRandomRounds(t *testing.T) {
	r := maker{rand.New(rand.NewSource(253))}
	more := [2]int{}
	for range 20000 {
		a, b, workers := r.script(), r.script(), 1+r.Intn(5)
		if r.Intn(4) == 0 {
			a, b = append(a, Fair(workers, r.Intn(9))...), append(Fair(workers, r.Intn(9)), b...)
		}
		n, aborts := Rounds(a, workers)
		m, others := Rounds(b, workers)
		if x, y := secondRounds(a, workers); x != n || y != aborts {
			t.Fatalf("%s, %d workers: %d, %d, not %d, %d", shown(a), workers, n, aborts, x, y)
		}
		both, all := Rounds(slices.Concat(a, b), workers)
		if all != aborts+others || both < n+m || both > n+m+1 {
			t.Fatalf("%s and %s, %d workers: %d and %d, together %d", shown(a), shown(b), workers, n, m, both)
		}
		more[both-n-m]++
	}
	if more[0] < 1000 || more[1] < 1000 {
		t.Error("too few of a kind:", more)
	}
}

// P25.6: Fair has the rounds that it says
func TestFairHasItsRounds(t *testing.T) {
	for workers := -1; workers <= api.MaxWorkers+1; workers++ {
		for rounds := -1; rounds < 40; rounds++ {
			want := max(rounds, 0)
			if workers < 1 || workers > api.MaxWorkers {
				want = 0
			}
			if n, aborts := Rounds(Fair(workers, rounds), workers); n != want || aborts != 0 {
				t.Fatal(workers, rounds, n, aborts)
			}
		}
	}
}
