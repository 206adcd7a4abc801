package vm

import (
	"math"
	"slices"
	"testing"

	"outrider/api"
)

func same(a, b api.Effect) bool {
	return slices.Equal(a.Mem, b.Mem) && slices.Equal(a.Outs, b.Outs) && slices.Equal(a.Intos, b.Intos) && a.Over == b.Over && a.Value == b.Value && a.Ticks == b.Ticks
}

// ran: what Run answers; it leaves what it is handed, also behind the memory's length, answers the same twice, and shares nothing.
func ran(t *testing.T, code []api.Ins, cells, fuel int, in api.Input) (api.Effect, api.Errno) {
	t.Helper()
	wasCode, wasMem := slices.Clone(code), slices.Clone(in.Mem)
	in.Mem = append(slices.Clone(in.Mem), 71, 72)[:len(in.Mem)]
	x, e := Run(code, cells, fuel, in)
	kept := x
	kept.Mem, kept.Outs, kept.Intos = slices.Clone(x.Mem), slices.Clone(x.Outs), slices.Clone(x.Intos)
	for i := range x.Mem {
		x.Mem[i] = 99
	}
	_ = append(x.Mem, 99, 99)
	if behind := in.Mem[:len(in.Mem)+2]; !slices.Equal(code, wasCode) || !slices.Equal(in.Mem, wasMem) || behind[len(in.Mem)] != 71 || behind[len(in.Mem)+1] != 72 {
		t.Fatal("what was handed in is changed")
	}
	again, no := Run(code, cells, fuel, in)
	if no != e || !same(again, kept) {
		t.Fatalf("%v %d, and then %v %d", kept, e, again, no)
	}
	if e != api.OK && !same(kept, api.Effect{}) {
		t.Fatalf("%v beside the error %d", kept, e)
	}
	return kept, e
}

// P11.4
func TestRun(t *testing.T) {
	in := api.Input{Mem: []int64{7, 0}, N: 0, I: 3, K: -2}
	for _, c := range []struct {
		text string
		fuel int
		want api.Effect
	}{
		{"halt", 1, api.Effect{Mem: []int64{7, 0}, Over: api.Halted, Ticks: 1}},
		{"load r4 r0 0\nadd r4 r4 r1\nstore r4 r0 1\nemit r4\ninto r4 0\nload r5 r4 0\nhalt", 50,
			api.Effect{Mem: []int64{7, 10}, Outs: []int64{10}, Intos: []api.Into{{Cell: 0, Value: 10}}, Over: api.Outside, Value: 10, Ticks: 6}},
		{"emit r0\nemit r1\nemit r2\nemit r3\nhalt", 5, api.Effect{Mem: []int64{7, 0}, Outs: []int64{0, 3, -2, 0}, Over: api.Halted, Ticks: 5}},
		{"emit r0\nemit r1\nemit r2\nemit r3\nhalt", 4, api.Effect{Mem: []int64{7, 0}, Outs: []int64{0, 3, -2, 0}, Over: api.Spent, Ticks: 4}},
		{"emit r0\nemit r1\nemit r2\nemit r3\nhalt", 2, api.Effect{Mem: []int64{7, 0}, Outs: []int64{0, 3}, Over: api.Spent, Ticks: 2}},
		{"store r1 r0 0\nload r4 r0 0\nemit r4\nstore r2 r0 0\nload r4 r0 0\nemit r4\nfail r4", 50, api.Effect{Mem: []int64{-2, 0}, Outs: []int64{3, -2}, Over: api.Failed, Value: -2, Ticks: 7}},
		{"store r1 r0 1\nstore r1 r0 2\nhalt", 50, api.Effect{Mem: []int64{7, 3}, Over: api.Outside, Value: 2, Ticks: 2}},
		{"store r1 r0 -1\nhalt", 50, api.Effect{Mem: []int64{7, 0}, Over: api.Outside, Value: -1, Ticks: 1}},
		{"store r1 r0 0\nhalt", 1, api.Effect{Mem: []int64{3, 0}, Over: api.Spent, Ticks: 1}},
		{"into r1 3\ninto r2 0\ninto r1 3\nemit r1\nrem r4 r1 r0\nhalt", 50,
			api.Effect{Mem: []int64{7, 0}, Outs: []int64{3}, Intos: []api.Into{{Cell: 3, Value: 3}, {Cell: 0, Value: -2}, {Cell: 3, Value: 3}}, Over: api.Divided, Ticks: 5}},
		{"const r4 1\nl1:\nzero r1 l5\ninto r1 2\nsub r1 r1 r4\njump l1\nl5:\nhalt", 50, api.Effect{Mem: []int64{7, 0}, Intos: []api.Into{{Cell: 2, Value: 3}, {Cell: 2, Value: 2}, {Cell: 2, Value: 1}}, Over: api.Halted, Ticks: 15}},
		{"l0:\njump l0", 4000, api.Effect{Mem: []int64{7, 0}, Over: api.Spent, Ticks: 4000}},
		{"l0:\njump l0", 1, api.Effect{Mem: []int64{7, 0}, Over: api.Spent, Ticks: 1}},
	} {
		if x, e := ran(t, listed(t, c.text), 4, c.fuel, in); e != api.OK || !same(x, c.want) {
			t.Errorf("%q with %d: %+v %d, not %+v", c.text, c.fuel, x, e, c.want)
		}
	}
	all := make([]int64, 4000)
	for i := range all {
		all[i] = 3
	}
	if x, e := ran(t, listed(t, "l0:\nemit r1\nother r1 l0\nhalt"), 0, 4000, in); e != api.OK || x.Over != api.Spent || !slices.Equal(x.Outs, all[:2000]) {
		t.Error(x, e)
	}
}

// P11.4: New's errors, with as many words as the memory has
func TestRunRefuses(t *testing.T) {
	halt, fall := []api.Ins{{Kind: api.InsHalt}}, []api.Ins{{Kind: api.InsEmit}}
	for many := range 70 {
		in := api.Input{Mem: make([]int64, many, 80)}
		for _, fuel := range []int{math.MinInt, -1, 0, 1, 4000, 4001, math.MaxInt} {
			want := api.OK
			if many < 1 || many > 64 {
				want = api.ErrWords
			} else if fuel < 1 || fuel > 4000 {
				want = api.ErrFuel
			}
			if x, e := ran(t, halt, 0, fuel, in); e != want || want == api.OK && len(x.Mem) != many {
				t.Errorf("%d words, fuel %d: %v %d, not %d", many, fuel, x, e, want)
			}
			if x, e := ran(t, fall, 0, fuel, in); e != api.ErrFall {
				t.Errorf("%v %d, not ErrFall", x, e)
			}
			if x, e := ran(t, nil, 0, fuel, in); e != api.ErrLen {
				t.Errorf("%v %d, not ErrLen", x, e)
			}
			if x, e := ran(t, []api.Ins{{Kind: api.InsInto, C: 1}, {Kind: api.InsHalt}}, 1, fuel, in); e != api.ErrCell {
				t.Errorf("%v %d, not ErrCell", x, e)
			}
		}
	}
	for _, mem := range [][]int64{nil, {}} {
		if x, e := Run(halt, 0, 1, api.Input{Mem: mem}); e != api.ErrWords || !same(x, api.Effect{}) {
			t.Error(x, e)
		}
	}
}

// P11.4: each word of the greatest memory is reached, and none beyond
func TestRunWords(t *testing.T) {
	code := listed(t, "load r4 r1 0\nadd r4 r4 r4\nstore r4 r1 0\nhalt")
	for _, many := range []int{1, 2, 64} {
		for at := -1; at <= many; at++ {
			in := api.Input{I: int64(at)}
			for n := range many {
				in.Mem = append(in.Mem, int64(100+n))
			}
			want := api.Effect{Mem: slices.Clone(in.Mem), Over: api.Halted, Ticks: 4}
			if at < 0 || at == many {
				want.Over, want.Value, want.Ticks = api.Outside, int64(at), 1
			} else {
				want.Mem[at] *= 2
			}
			if x, e := ran(t, code, 0, 9, in); e != api.OK || !same(x, want) {
				t.Errorf("%d of %d: %+v %d", at, many, x, e)
			}
		}
	}
}
