package eval

import (
	"math"
	"slices"
	"strconv"
	"strings"
	"testing"

	"outrider/api"
	"outrider/tree"
)

func parsed(t *testing.T, s string) []api.Stmt {
	t.Helper()
	l, at, e := tree.Parse(s)
	if e != api.OK {
		t.Fatalf("%q: %d %d", s, at, e)
	}
	return l
}

func same(a, b api.Effect) bool {
	return slices.Equal(a.Mem, b.Mem) && slices.Equal(a.Outs, b.Outs) && slices.Equal(a.Intos, b.Intos) &&
		a.Over == b.Over && a.Value == b.Value && a.Ticks == b.Ticks
}

// ran: what Run answers of statements; it leaves what it is handed, answers the same twice, and shares nothing.
func ran(t *testing.T, l []api.Stmt, cells int, in api.Input, bound int) (api.Effect, api.Errno) {
	t.Helper()
	was, mem := tree.Copy(l), slices.Clone(in.Mem)
	x, e := Run(l, cells, in, bound)
	kept := api.Effect{Mem: slices.Clone(x.Mem), Outs: slices.Clone(x.Outs), Intos: slices.Clone(x.Intos), Over: x.Over, Value: x.Value, Ticks: x.Ticks}
	for i := range x.Mem {
		x.Mem[i] = ^x.Mem[i]
	}
	for i := range x.Outs {
		x.Outs[i] = ^x.Outs[i]
	}
	again, no := Run(l, cells, in, bound)
	if no != e || !same(again, kept) {
		t.Fatalf("%v %d, and then %v %d", kept, e, again, no)
	}
	if !tree.Same(l, was) || !slices.Equal(in.Mem, mem) {
		t.Fatal("what was handed in is changed")
	}
	if e != api.OK && !same(kept, api.Effect{}) {
		t.Fatalf("%v beside the error %d", kept, e)
	}
	return kept, e
}

func words(l ...int64) []int64 { return l }

// input: a memory, and numbers of n, i and k that are told apart.
func input(mem ...int64) api.Input {
	return api.Input{Mem: mem, N: 7, I: 4, K: 2}
}

// does: a text on a memory of two noughts with enough ticks.
func does(t *testing.T, s string, want api.Effect) {
	t.Helper()
	if x, e := ran(t, parsed(t, s), 4, input(0, 0), 500); e != api.OK || !same(x, want) {
		t.Errorf("%q: %v %d, not %v", s, x, e, want)
	}
}

// puts: a text that halts, and what it puts out, in so many ticks.
func puts(t *testing.T, s string, ticks int, outs ...int64) {
	t.Helper()
	if x, e := ran(t, parsed(t, s), 4, input(0, 0), 500); e != api.OK || !slices.Equal(x.Outs, outs) || x.Ticks != ticks || x.Over != api.Halted || x.Value != 0 {
		t.Errorf("%q: %v %d, not %v in %d", s, x, e, outs, ticks)
	}
}

// P7.1: the chapter's examples
func TestExamples(t *testing.T) {
	does(t, "m[1] = i + 1; emit m[1] * 2;", api.Effect{Mem: words(0, 5), Outs: words(10), Over: api.Halted, Ticks: 2})
	does(t, "var x = 3; while (x) { into 0 x; x = x - 1; }", api.Effect{Mem: words(0, 0), Intos: []api.Into{{Cell: 0, Value: 3}, {Cell: 0, Value: 2}, {Cell: 0, Value: 1}}, Over: api.Halted, Ticks: 11})
	does(t, "emit 1; m[2] = 1;", api.Effect{Mem: words(0, 0), Outs: words(1), Over: api.Outside, Value: 2, Ticks: 2})
	does(t, "fail 7;", api.Effect{Mem: words(0, 0), Over: api.Failed, Value: 7, Ticks: 1})
	x, e := ran(t, parsed(t, "emit 1 / i;"), 0, api.Input{Mem: words(0, 0)}, 50)
	if want := (api.Effect{Mem: words(0, 0), Over: api.Divided, Ticks: 1}); e != api.OK || !same(x, want) {
		t.Error(x, e)
	}
}

// P7.1: each kind of statement
func TestStatements(t *testing.T) {
	puts(t, "", 0)
	puts(t, "emit n; emit i; emit k;", 3, 7, 4, 2)
	puts(t, "n = 1; emit n; i = n + 1; emit i; k = i + 1; emit k; emit n + i + k;", 7, 1, 2, 3, 6)
	puts(t, "var x = i; emit x; x = x * x; emit x; var y = x - n; emit y; emit x;", 7, 4, 16, 9, 16)
	puts(t, "i = i + i; i = i + i; emit i;", 3, 16)
	puts(t, "emit 9223372036854775807; emit 0;", 2, math.MaxInt64, 0)
	puts(t, "if (1) { emit 1; } else { emit 2; } emit 3;", 3, 1, 3)
	puts(t, "if (0) { emit 1; } else { emit 2; } emit 3;", 3, 2, 3)
	puts(t, "if (-1) { emit 1; } else { emit 2; }", 2, 1)
	puts(t, "if (1 << 63) { emit 1; } else { emit 2; }", 2, 1)
	puts(t, "if (0) { emit 1; } emit 3;", 2, 3)
	puts(t, "if (1) { } else { emit 2; } emit 3;", 2, 3)
	puts(t, "if (0) { emit 1; } else if (k) { emit 2; emit 5; } else { emit 3; }", 4, 2, 5)
	puts(t, "if (0) { emit 1; } else if (0) { emit 2; } else { emit 3; }", 3, 3)
	puts(t, "if (1) { emit 1; } else if (1 / 0) { emit 2; }", 2, 1)
	puts(t, "if (i) { i = 0; emit 1; } else { emit 2; } if (i) { emit 3; } else { emit 4; }", 5, 1, 4)
	puts(t, "while (0) { emit 1; } emit 2;", 2, 2)
	puts(t, "while (k) { emit k; k = k - 1; } emit 9;", 8, 2, 1, 9)
	puts(t, "k = -2; while (k) { emit k; k = k + 1; }", 8, -2, -1)
	puts(t, "while (k) { i = 2; while (i) { emit k * 10 + i; i = i - 1; } k = k - 1; }", 21, 22, 21, 12, 11)
	puts(t, "while (k) { k = k - 1; if (k) { emit 1; } else { emit 2; } }", 9, 1, 2)
	does(t, "m[0] = 5; m[1] = m[0] + 1; m[m[0] - 5] = m[1] * 2; m[m[m[1] - 6] - 11] = 3;", api.Effect{Mem: words(12, 3), Over: api.Halted, Ticks: 4})
	does(t, "into 0 5; into 3 i; into 1 -1; into 0 5; emit 8; into 3 m[0];", api.Effect{Mem: words(0, 0), Outs: words(8), Intos: []api.Into{{Cell: 0, Value: 5}, {Cell: 3, Value: 4}, {Cell: 1, Value: -1}, {Cell: 0, Value: 5}, {Cell: 3, Value: 0}}, Over: api.Halted, Ticks: 6})
	does(t, "emit 1; fail i - n; emit 2;", api.Effect{Mem: words(0, 0), Outs: words(1), Over: api.Failed, Value: -3, Ticks: 2})
	does(t, "fail 0;", api.Effect{Mem: words(0, 0), Over: api.Failed, Ticks: 1})
	does(t, "fail 1 << 63;", api.Effect{Mem: words(0, 0), Over: api.Failed, Value: math.MinInt64, Ticks: 1})
	does(t, "emit 1; stop; emit 2;", api.Effect{Mem: words(0, 0), Outs: words(1), Over: api.Halted, Ticks: 2})
}

// P7.1: each kind of expression; what is on the left stays there
func TestExpressions(t *testing.T) {
	for _, c := range []struct {
		s    string
		want int64
	}{
		{"n + k", 9}, {"n - k", 5}, {"k - n", -5}, {"n * k", 14}, {"n / k", 3}, {"k / n", 0}, {"-n / k", -3}, {"n % k", 1}, {"-n % i", -3}, {"k % n", 2}, {"n & i", 4}, {"n & -k", 6}, {"k | i", 6}, {"n ^ k", 5},
		{"n << k", 28}, {"k << n", 256}, {"n >> k", 1}, {"-n >> 65", -4}, {"i == 4", 1}, {"i == k", 0}, {"i != 4", 0}, {"i != k", 1}, {"k < i", 1}, {"i < k", 0}, {"k < k", 0}, {"k <= i", 1}, {"i <= k", 0}, {"k <= k", 1},
		{"i > k", 1}, {"k > i", 0}, {"k > k", 0}, {"i >= k", 1}, {"k >= i", 0}, {"k >= k", 1}, {"min(i, k)", 2}, {"min(k, i)", 2}, {"min(-i, k)", -4}, {"max(i, k)", 4}, {"max(k, i)", 4}, {"max(-i, k)", 2},
		{"-i", -4}, {"~i", -5}, {"!i", 0}, {"!0", 1}, {"!!i", 1}, {"-~!0", 2}, {"0", 0}, {"12", 12}, {"n", 7}, {"i - k - 1", 1}, {"i - (k - 1)", 3}, {"n - i * k", -1},
		{"9223372036854775807 + 1", math.MinInt64}, {"-9223372036854775807 - 2", math.MaxInt64}, {"(1 << 63) / -1", math.MinInt64}, {"(1 << 63) % -1", 0}, {"-(1 << 63)", math.MinInt64}, {"4611686018427387904 * 4", 0},
		{"m[0]", 3}, {"m[1]", 1}, {"m[m[1]]", 1}, {"m[i - 4] * m[k / 2] + m[m[0] - 2]", 4}, {"-m[n - 7]", -3}, {"min(m[0], m[1])", 1}, {"m[0] - m[1]", 2}, {"m[!i]", 3}, {"m[!!i]", 1},
	} {
		for _, ahead := range []string{"emit ", "if (1) { } emit ", "var x = 1; x = x; emit "} {
			x, e := ran(t, parsed(t, ahead+c.s+";"), 0, input(3, 1), 500)
			if e != api.OK || x.Over != api.Halted || !slices.Equal(x.Outs, []int64{c.want}) {
				t.Errorf("%q: %v %d, not %d", ahead+c.s, x, e, c.want)
			}
		}
	}
}

// P7.1: a name has what it was given last, whatever else had its register
func TestNames(t *testing.T) {
	puts(t, "var a = 1; if (1) { var b = 2; b = 3; emit b; } var c = 4; emit a; emit c; a = 5; emit c; c = 6; emit a;", 12, 3, 1, 4, 4, 5)
	puts(t, "if (1) { var x = 9; emit x; } var y = 2; if (1) { var x = y; x = x + 1; emit x; } emit y;", 9, 9, 3, 2)
	puts(t, "if (1) { var x = 9; } else { var y = 8; emit y; } var z = n; emit z;", 4, 7)
	puts(t, "if (0) { var x = 9; } else { var y = 8; emit y; } var z = n; emit z;", 5, 8, 7)
	puts(t, "if (0) { var x = 9; emit x; } var y = i; emit y;", 3, 4)
	puts(t, "var a = 2; while (a) { var b = a * 10; if (1) { var c = b + 1; emit c; } var d = b + 2; emit d; emit b; a = a - 1; } var e = a; emit e;", 22, 21, 22, 20, 11, 12, 10, 0)
	puts(t, "while (k) { var x = k; x = x * 3; emit x; k = k - 1; }", 11, 6, 3)
	puts(t, "if (1) { i = 5; var x = i; i = x + 1; } var y = 1; emit i + y;", 6, 7)
	puts(t, "var x = 1; while (x < 20) { var y = x; x = x + y; } emit x;", 18, 32)
	puts(t, "var a=1; var b=2; var c=3; var d=4; var e=5; var f=6; var g=7; var h=8; n=9; i=10; k=11; emit a; emit b; emit c; emit d; emit e; emit f; emit g; emit h; emit n; emit i; emit k;", 22, 1, 2, 3, 4, 5, 6, 7, 8, 9, 10, 11)
	puts(t, "var a=1; if (1) { var b=2; var c=3; emit b-c; if (1) { var d=4; emit d-c; } var e=5; emit e-c; } var f=6; var g=7; emit f-g; emit a;", 14, -1, 1, 2, -1, 1)
	puts(t, "var nn = 1; var N = 2; var abcdefghijkl = 3; var abcdefghijk = 4; emit nn; emit N; emit abcdefghijkl; emit abcdefghijk; emit n;", 9, 1, 2, 3, 4, 7)
}

// P7.1: an address that isn't one of the memory's, read and stored
func TestOutside(t *testing.T) {
	for _, size := range []int{0, 1, 2, 5, 63, 64} {
		for _, at := range []int64{math.MinInt64, -1 << 32, -65, -2, -1, 0, 1, 2, 4, 5, 62, 63, 64, 65, 1 << 31, 1 << 32, 1<<32 + 1, 1 << 62, math.MaxInt64} {
			in := api.Input{Mem: make([]int64, size), N: at}
			for i := range in.Mem {
				in.Mem[i] = int64(100 + i)
			}
			read := api.Effect{Mem: slices.Clone(in.Mem), Outs: words(3), Over: api.Outside, Value: at, Ticks: 2}
			stored := read
			if at >= 0 && at < int64(size) {
				read = api.Effect{Mem: slices.Clone(in.Mem), Outs: words(3, 100+at), Over: api.Halted, Ticks: 2}
				stored = api.Effect{Mem: slices.Clone(in.Mem), Outs: words(3), Over: api.Halted, Ticks: 2}
				stored.Mem[at] = -9
			}
			if x, e := ran(t, parsed(t, "emit 3; emit m[n];"), 0, in, 50); e != api.OK || !same(x, read) {
				t.Errorf("%d of %d read: %v %d", at, size, x, e)
			}
			if x, e := ran(t, parsed(t, "emit 3; m[n] = -9;"), 0, in, 50); e != api.OK || !same(x, stored) {
				t.Errorf("%d of %d stored: %v %d", at, size, x, e)
			}
		}
	}
}

// P7.1: what ends a run within each statement, and the order in which values are found
func TestOrder(t *testing.T) {
	for _, c := range []struct {
		s     string
		over  api.Over
		value int64
	}{
		{"m[5] = 1 / 0;", api.Divided, 0}, {"m[5] = m[6];", api.Outside, 6}, {"m[m[5]] = 1 / 0;", api.Outside, 5}, {"m[1 / 0] = m[6];", api.Divided, 0}, {"m[m[5]] = m[6];", api.Outside, 5}, {"m[-1] = 3;", api.Outside, -1}, {"m[2] = m[1];", api.Outside, 2},
		{"emit m[5] + 1 / 0;", api.Outside, 5}, {"emit 1 / 0 + m[5];", api.Divided, 0}, {"emit m[5] - m[6];", api.Outside, 5}, {"emit m[6] * m[5];", api.Outside, 6}, {"emit min(m[5], 1 % 0);", api.Outside, 5}, {"emit max(1 % 0, m[5]);", api.Divided, 0},
		{"emit m[5] / 0;", api.Outside, 5}, {"emit m[5] % 0;", api.Outside, 5}, {"emit 0 / m[5];", api.Outside, 5}, {"emit 1 / (1 / 0);", api.Divided, 0}, {"emit (1 / 0) / m[5];", api.Divided, 0},
		{"emit m[m[0] + 2] | m[9];", api.Outside, 2}, {"emit m[m[1 / 0]];", api.Divided, 0}, {"emit m[m[5]];", api.Outside, 5}, {"emit -m[5];", api.Outside, 5}, {"emit !(1 / 0);", api.Divided, 0}, {"emit 0 & 1 / 0;", api.Divided, 0}, {"emit 0 * m[2];", api.Outside, 2}, {"emit 1 | m[2];", api.Outside, 2},
		{"emit 1 / 0;", api.Divided, 0}, {"emit 1 % 0;", api.Divided, 0}, {"emit 0 / 0;", api.Divided, 0}, {"emit 0 % 0;", api.Divided, 0}, {"emit i / (k - 2);", api.Divided, 0}, {"emit (1 << 63) % (i - 4);", api.Divided, 0},
		{"var x = 1 / 0;", api.Divided, 0}, {"var x = m[3];", api.Outside, 3}, {"i = 1 / 0;", api.Divided, 0}, {"i = m[3];", api.Outside, 3}, {"into 0 1 / 0;", api.Divided, 0}, {"into 0 m[3];", api.Outside, 3},
		{"fail 1 / 0;", api.Divided, 0}, {"fail m[3];", api.Outside, 3}, {"fail 3;", api.Failed, 3}, {"if (1 / 0) { } else { }", api.Divided, 0}, {"if (m[3]) { emit 1; } else { emit 2; }", api.Outside, 3}, {"while (1 / 0) { }", api.Divided, 0}, {"while (m[3]) { }", api.Outside, 3}, {"stop;", api.Halted, 0},
	} {
		want := api.Effect{Mem: words(0, 0), Over: c.over, Value: c.value, Ticks: 1}
		does(t, c.s, want)
		does(t, c.s+"emit 5; m[0] = 5; into 0 5;", want)

		// what was done ahead of the end stays, wherever it comes
		want = api.Effect{Mem: words(0, 8), Outs: words(6, 7), Intos: []api.Into{{Cell: 2, Value: 9}}, Over: c.over, Value: c.value, Ticks: 5}
		ahead := "emit 6; m[1] = 8; into 2 9; emit 7; "
		does(t, ahead+c.s, want)
		want.Ticks = 6
		does(t, ahead+"if (1) { "+c.s+" emit 5; } emit 5;", want)
		does(t, ahead+"if (0) { emit 5; } else { "+c.s+" emit 5; } emit 5;", want)
		does(t, ahead+"while (1) { "+c.s+" emit 5; } emit 5;", want)
		want.Ticks = 9
		does(t, ahead+"while (1) { if (1) { while (1) { if (0) { } else { "+c.s+" } emit 5; } } }", want)
	}
	does(t, "while (k) { emit 4 / (k - 1); k = k - 1; }", api.Effect{Mem: words(0, 0), Outs: words(4), Over: api.Divided, Ticks: 5})
	does(t, "i = 0; while (m[i] == 0) { emit i; i = i + 1; }", api.Effect{Mem: words(0, 0), Outs: words(0, 1), Over: api.Outside, Value: 2, Ticks: 8})
	does(t, "m[0] = 1; m[1] = m[0] + m[1] / (m[0] - 1); m[0] = 3;", api.Effect{Mem: words(1, 0), Over: api.Divided, Ticks: 2})
}

// P7.1: stop, within blocks
func TestStop(t *testing.T) {
	puts(t, "emit 1; if (1) { emit 2; stop; emit 3; } emit 4;", 4, 1, 2)
	puts(t, "if (0) { emit 2; } else { stop; emit 3; } emit 4;", 2)
	puts(t, "if (0) { stop; } emit 4;", 2, 4)
	puts(t, "while (1) { emit 2; stop; } emit 4;", 3, 2)
	puts(t, "while (1) { emit i; i = i - 1; if (i == 1) { stop; } } emit 4;", 13, 4, 3, 2)
	puts(t, "while (1) { while (1) { if (1) { emit 1; stop; } } }", 5, 1)
	puts(t, "while (0) { stop; } emit 4;", 2, 4)
	puts(t, "stop; stop; emit 1 / 0; fail 3;", 1)
}

// P7.1: a tick ahead of each statement and of each test of a while: what is done with 0 ticks, with 1, and so on, till it ends
func TestTicks(t *testing.T) {
	for _, c := range []struct {
		s    string
		over api.Over
		outs [][]int64 // with so many ticks
	}{
		{"", api.Halted, [][]int64{{}}},
		{"emit 1;", api.Halted, [][]int64{{}, {1}}},
		{"stop;", api.Halted, [][]int64{{}, {}}},
		{"fail 1;", api.Failed, [][]int64{{}, {}}},
		{"emit 1 / 0;", api.Divided, [][]int64{{}, {}}},
		{"m[9] = 1;", api.Outside, [][]int64{{}, {}}},
		{"emit m[9];", api.Outside, [][]int64{{}, {}}},
		{"if (1 / 0) { emit 1; }", api.Divided, [][]int64{{}, {}}},
		{"while (m[9]) { emit 1; }", api.Outside, [][]int64{{}, {}}},
		{"emit 1; emit 2; emit 3;", api.Halted, [][]int64{{}, {1}, {1, 2}, {1, 2, 3}}},
		{"var x = 1; x = 2; m[0] = 3; into 0 4; emit x + m[0];", api.Halted, [][]int64{{}, {}, {}, {}, {}, {5}}},
		{"if (1) { } emit 1;", api.Halted, [][]int64{{}, {}, {1}}},
		{"if (0) { } emit 1;", api.Halted, [][]int64{{}, {}, {1}}},
		{"if (1) { emit 1; emit 2; } emit 3;", api.Halted, [][]int64{{}, {}, {1}, {1, 2}, {1, 2, 3}}},
		{"if (0) { emit 1; } else { emit 2; emit 3; } emit 4;", api.Halted, [][]int64{{}, {}, {2}, {2, 3}, {2, 3, 4}}},
		{"if (0) { } else if (1) { emit 1; }", api.Halted, [][]int64{{}, {}, {}, {1}}},
		{"if (1) { emit 1; fail 1; }", api.Failed, [][]int64{{}, {}, {1}, {1}}},
		{"while (0) { emit 1; } emit 2;", api.Halted, [][]int64{{}, {}, {2}}},
		{"while (k) { emit k; k = k - 1; } emit 9;", api.Halted, [][]int64{{}, {}, {2}, {2}, {2}, {2, 1}, {2, 1}, {2, 1}, {2, 1, 9}}},
		{"while (k) { emit k; k = k - 1; }", api.Halted, [][]int64{{}, {}, {2}, {2}, {2}, {2, 1}, {2, 1}, {2, 1}}},
		{"while (1) { emit 1; stop; }", api.Halted, [][]int64{{}, {}, {1}, {1}}},
		{"while (1) { if (1) { emit 1; fail 3; } }", api.Failed, [][]int64{{}, {}, {}, {1}, {1}}},
	} {
		last := len(c.outs) - 1
		for bound := range last + 3 {
			x, e := ran(t, parsed(t, c.s), 4, input(0, 0), bound)
			over, ticks := c.over, last
			if bound < last {
				over, ticks = api.Going, bound
			}
			if e != api.OK || !slices.Equal(x.Outs, c.outs[ticks]) || x.Over != over || x.Ticks != ticks || over == api.Going && x.Value != 0 {
				t.Errorf("%q with %d: %v %d", c.s, bound, x, e)
			}
		}
	}
}

// P7.1: with no tick left, nothing of the statement is done, be it within an expression, a while, an if
func TestNoTickLeft(t *testing.T) {
	for _, s := range []string{"m[0] = 1;", "emit 1;", "into 0 1;", "fail 1;", "stop;", "emit 1 / 0;", "m[9] = 1;", "i = m[9];", "var x = 1 / 0;", "if (1 / 0) { }", "if (1) { m[0] = 1; }", "while (1) { emit 1; }", "while (m[9]) { }"} {
		for _, c := range []struct {
			s     string
			ticks int
		}{
			{s, 0}, {"if (1) {" + s + "}", 1}, {"if (0) { } else {" + s + "}", 1}, {"while (1) {" + s + "}", 1}, {"while (1) { if (1) { while (1) {" + s + "} } }", 3}, {"m[1] = 5; m[1] = 0;" + s, 2}, {"while (k) { k = k - 1; }" + s, 5},
		} {
			x, e := ran(t, parsed(t, c.s), 4, input(0, 0), c.ticks)
			if want := (api.Effect{Mem: words(0, 0), Ticks: c.ticks}); e != api.OK || !same(x, want) {
				t.Errorf("%q with %d: %v %d", c.s, c.ticks, x, e)
			}
		}
	}
	does(t, "while (1) { }", api.Effect{Mem: words(0, 0), Ticks: 500})
	does(t, "while (1) { m[0] = m[0] + 1; }", api.Effect{Mem: words(250, 0), Ticks: 500})
	does(t, "while (1) { while (0) { } if (0) { } if (1) { m[1] = m[1] + 1; } }", api.Effect{Mem: words(0, 100), Ticks: 500})
}

// P7.1: a memory of MaxWords words and of one more, and an empty one
func TestWords(t *testing.T) {
	l := parsed(t, "m[0] = m[63] + 1; m[63] = 2; emit m[62];")
	mem := make([]int64, 66)
	for i := range mem {
		mem[i] = int64(i)
	}
	want := api.Effect{Mem: slices.Clone(mem[:64]), Outs: words(62), Over: api.Halted, Ticks: 3}
	want.Mem[0], want.Mem[63] = 64, 2
	if x, e := ran(t, l, 0, api.Input{Mem: mem[:64]}, 50); e != api.OK || !same(x, want) {
		t.Error(x, e)
	}
	for _, many := range []int{65, 66} {
		if _, e := ran(t, l, 0, api.Input{Mem: mem[:many]}, 50); e != api.ErrWords {
			t.Error(many, e)
		}
	}
	if _, e := ran(t, nil, 0, api.Input{Mem: make([]int64, 100000)}, 50); e != api.ErrWords {
		t.Error(e)
	}
	for _, none := range [][]int64{nil, {}, mem[:0]} {
		x, e := ran(t, parsed(t, "emit 1; emit m[0];"), 0, api.Input{Mem: none}, 50)
		if want := (api.Effect{Outs: words(1), Over: api.Outside, Ticks: 2}); e != api.OK || !same(x, want) {
			t.Error(x, e)
		}
		x, e = ran(t, parsed(t, "emit i;"), 0, api.Input{Mem: none, I: 8}, 50)
		if want := (api.Effect{Outs: words(8), Over: api.Halted, Ticks: 1}); e != api.OK || !same(x, want) {
			t.Error(x, e)
		}
	}
}

// P7.1: bounds
func TestBounds(t *testing.T) {
	if MaxTicks != 1000000 {
		t.Error(MaxTicks)
	}
	for _, s := range []string{"", "emit 1;", "while (1) { }", "emit 1 / 0;"} {
		for _, bound := range []int{math.MinInt, -1000000, -2, -1, MaxTicks + 1, MaxTicks + 2, 1 << 32, 1<<32 + 5, math.MaxInt} {
			if _, e := ran(t, parsed(t, s), 0, input(0, 0), bound); e != api.ErrFuel {
				t.Errorf("%q with %d: %d", s, bound, e)
			}
		}
	}
	for _, bound := range []int{0, 1, MaxTicks - 1, MaxTicks} {
		x, e := ran(t, parsed(t, "while (1) { m[0] = m[0] + 1; }"), 0, input(0, 0), bound)
		if want := (api.Effect{Mem: words(int64(bound/2), 0), Ticks: bound}); e != api.OK || !same(x, want) {
			t.Error(bound, x, e)
		}
	}
	// 999999 ticks, and then the last one
	s := "var x = 499998; while (x) { x = x - 1; } if (1) { emit 5; }"
	x, e := ran(t, parsed(t, s), 0, input(), MaxTicks)
	if want := (api.Effect{Outs: words(5), Over: api.Halted, Ticks: MaxTicks}); e != api.OK || !same(x, want) {
		t.Error(x, e)
	}
	x, e = ran(t, parsed(t, s), 0, input(), MaxTicks-1)
	if want := (api.Effect{Ticks: MaxTicks - 1}); e != api.OK || !same(x, want) {
		t.Error(x, e)
	}
	x, e = ran(t, parsed(t, "while (1) { emit n; n = n + 1; }"), 0, api.Input{}, MaxTicks)
	if e != api.OK || x.Over != api.Going || len(x.Outs) != 333333 || x.Outs[333332] != 333332 {
		t.Error(len(x.Outs), x.Over, e)
	}
}

// P7.1: layer 6's errors
func TestNamesErrors(t *testing.T) {
	eight := ""
	for at := range 8 {
		eight += "var v" + strconv.Itoa(at) + " = 1; "
	}
	for _, c := range []struct {
		s     string
		cells int
		want  api.Errno
	}{
		{"emit x;", 0, api.ErrUnknown}, {"stop; emit x;", 0, api.ErrUnknown}, {"x = 1;", 0, api.ErrUnknown}, {"if (0) { emit x; }", 0, api.ErrUnknown}, {"if (1) { var x = 1; } emit x;", 0, api.ErrUnknown}, {"var x = x;", 0, api.ErrUnknown},
		{"var i = 1;", 0, api.ErrTwice}, {"var x = 1; if (0) { var x = 2; }", 0, api.ErrTwice}, {"var x = 1; while (0) { var x = 2; }", 0, api.ErrTwice},
		{eight, 0, api.OK}, {eight + "var x = 1;", 0, api.ErrVars}, {eight + "if (0) { var x = 1; }", 0, api.ErrVars},
		{"into 0 1;", 0, api.ErrCell}, {"into 0 1;", -1, api.ErrCell}, {"into 0 1;", math.MinInt, api.ErrCell}, {"into 0 1;", 1, api.OK}, {"into 1 1;", 1, api.ErrCell}, {"into 3 1;", 4, api.OK}, {"into 3 1;", math.MaxInt, api.OK}, {"into 4 1;", 4, api.ErrCell}, {"into 255 1;", 4, api.ErrCell}, {"stop; into 1 1;", 1, api.ErrCell},
		{"into 1 1; emit x;", 1, api.ErrCell}, {"emit x; into 1 1;", 1, api.ErrUnknown},
	} {
		if x, e := ran(t, parsed(t, c.s), c.cells, input(0, 0), 50); e != c.want {
			t.Errorf("%q with %d: %v %d", c.s, c.cells, x, e)
		}
	}
}

// P7.1, P1: the error that is named first
func TestErrorsInOrder(t *testing.T) {
	right := parsed(t, "emit 1;")
	unknown := parsed(t, "emit x;")
	for set := range 16 {
		l, in, bound, want := right, input(0, 0), 50, api.OK
		if set&1 != 0 {
			bound, want = -1, api.ErrFuel
		}
		if set&2 != 0 {
			in, want = input(make([]int64, 65)...), api.ErrWords
		}
		if set&4 != 0 {
			l, want = unknown, api.ErrUnknown
		}
		if set&8 != 0 {
			l, want = append(tree.Copy(l), api.Stmt{}), api.ErrTree
		}
		if x, e := ran(t, l, 0, in, bound); e != want {
			t.Errorf("%d: %v %d, not %d", set, x, e, want)
		}
		if bound == -1 {
			if _, e := ran(t, l, 0, in, MaxTicks+1); e != want {
				t.Errorf("%d: %d, not %d", set, e, want)
			}
		}
	}
}

// P7.1, P1: statements that aren't right
func TestWrong(t *testing.T) {
	x := api.Expr{Kind: api.ExprName, Name: "i"}
	one := []api.Expr{x}
	rows := [][]api.Stmt{{{}}, {{Kind: -1}}, {{Kind: 10}}, {{Kind: math.MaxInt, Cell: math.MaxInt}}, {{Kind: math.MinInt}}, {{Kind: api.StmtStop}, {}}, make([]api.Stmt, 100000)}
	for kind := api.StmtVar; kind <= api.StmtStop; kind++ {
		for _, args := range [][]api.Expr{{x, x, x}, {{}}, {{Kind: 6}}, {{Kind: -1, Args: one}}, {{Kind: api.ExprNum, Num: -1}}, {{Kind: api.ExprName}}, {{Kind: api.ExprName, Name: "if"}}, {{Kind: api.ExprName, Name: "i", Num: 1}}, {{Kind: api.ExprMem}}, {{Kind: api.ExprOne, Op: api.OpAdd, Args: one}}, {{Kind: api.ExprTwo, Op: api.OpAdd, Args: one}}, {{Kind: api.ExprTwo, Op: api.OpNot, Args: []api.Expr{x, x}}}, {{Kind: api.ExprTwo, Op: 99, Args: []api.Expr{x, x}}}} {
			rows = append(rows, []api.Stmt{{Kind: kind, Args: args}}, []api.Stmt{{Kind: kind, Name: "i", Args: args}})
		}
		rows = append(rows, []api.Stmt{{Kind: kind, Name: "if", Args: one}}, []api.Stmt{{Kind: kind, Name: "i", Cell: 5, Args: one}}, []api.Stmt{{Kind: kind, Cell: -1, Args: one}}, []api.Stmt{{Kind: kind, Cell: 256, Args: one}}, []api.Stmt{{Kind: api.StmtIf, Args: one, Body: []api.Stmt{{Kind: kind, Cell: 7}}}})
	}
	deep, blocks := x, []api.Stmt{{Kind: api.StmtStop}}
	for range 60000 {
		deep = api.Expr{Kind: api.ExprMem, Args: []api.Expr{deep}}
		blocks = []api.Stmt{{Kind: api.StmtWhile, Args: one, Body: blocks}}
	}
	rows = append(rows, []api.Stmt{{Kind: api.StmtEmit, Args: []api.Expr{deep}}}, blocks, slices.Repeat([]api.Stmt{{Kind: api.StmtStop}}, 601))
	for _, l := range rows {
		for _, bound := range []int{-1, 0, 50} {
			if x, e := ran(t, l, 4, input(0, 0), bound); e != api.ErrTree {
				t.Errorf("%d statements, the first of kind %d: %v %d", len(l), l[0].Kind, x, e)
			}
		}
	}
	ring := []api.Stmt{{Kind: api.StmtWhile, Args: one}}
	ring[0].Body = ring
	if x, e := Run(ring, 4, input(), 50); e != api.ErrTree || !same(x, api.Effect{}) {
		t.Error(x, e)
	}
}

// P7.1: statements as many, as deep, within as many blocks as they may be
func TestGreatest(t *testing.T) {
	if x, e := ran(t, slices.Repeat([]api.Stmt{{Kind: api.StmtEmit, Args: []api.Expr{{Kind: api.ExprNum, Num: 3}}}}, 300), 0, input(), 1000); e != api.OK || len(x.Outs) != 300 || x.Ticks != 300 || x.Over != api.Halted {
		t.Error(x, e)
	}
	puts(t, "emit "+strings.Repeat("-", 47)+"1;", 1, -1)
	puts(t, "emit 1"+strings.Repeat(" + 1", 47)+";", 1, 48)
	puts(t, strings.Repeat("if (1) { ", 12)+"emit 1;"+strings.Repeat(" emit 2; }", 12), 25, append(words(1), slices.Repeat(words(2), 12)...)...)
	puts(t, strings.Repeat("while (1) { ", 12)+"emit 1; stop;"+strings.Repeat(" emit 2; }", 12), 14, 1)
}

// Rule 5: nothing behind a list's length is read, changed or handed out, and the memory that is answered is new
func TestNew(t *testing.T) {
	args := []api.Expr{{Kind: api.ExprNum, Num: 1}, {Kind: api.ExprName, Name: "i"}, {Kind: api.ExprName, Name: "unknown"}}
	body := []api.Stmt{{Kind: api.StmtStore, Args: args[:2]}, {Kind: api.StmtSet, Name: "unknown"}}
	l := []api.Stmt{{Kind: api.StmtIf, Args: args[:1], Body: body[:1], Else: body[:1]}, {Kind: api.StmtEmit, Args: args[1:2]}, body[1]}
	mem := words(5, 6, 7, 8)
	in := api.Input{Mem: mem[:2], I: 9}
	x, e := Run(l[:2], 0, in, 50)
	if want := (api.Effect{Mem: words(5, 9), Outs: words(9), Over: api.Halted, Ticks: 3}); e != api.OK || !same(x, want) {
		t.Fatal(x, e)
	}
	_, _ = append(x.Mem, 100, 101), append(x.Outs, 102)
	x.Mem[0], x.Outs[0] = 50, 51
	y, _ := Run(l[:2], 0, in, 50)
	if want := (api.Effect{Mem: words(5, 9), Outs: words(9), Over: api.Halted, Ticks: 3}); !same(y, want) || x.Mem[0] != 50 {
		t.Error(x, y)
	}
	if !slices.Equal(mem, words(5, 6, 7, 8)) || args[2].Name != "unknown" || args[1].Num != 0 || body[1].Name != "unknown" || body[1].Cell != 0 || l[2].Name != "unknown" {
		t.Error("changed")
	}
	if x, e := Run(parsed(t, "emit m[2];"), 0, in, 50); e != api.OK || x.Over != api.Outside || x.Value != 2 {
		t.Error(x, e)
	}
	// a memory that nothing is stored into is new all the same
	for _, s := range []string{"", "emit 1;", "fail 1;"} {
		x, _ := Run(parsed(t, s), 0, in, 50)
		x.Mem[1] = 77
		if mem[1] != 6 {
			t.Errorf("%q shares its memory", s)
		}
	}
}
