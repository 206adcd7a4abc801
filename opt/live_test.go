package opt

import (
	"slices"
	"testing"

	"outrider/api"
)

// alive: of each place of a listing the registers that are live behind it.
func alive(t *testing.T, s string, want ...[]int) {
	t.Helper()
	var bits []uint32
	for _, registers := range want {
		sum := uint32(0)
		for _, r := range registers {
			sum += 1 << r
		}
		bits = append(bits, sum)
	}
	if got := asked(t, Live, listed(t, s)); !slices.Equal(got, bits) {
		t.Errorf("%s: %b, not %b", s, got, bits)
	}
}

// P12.1
func TestLive(t *testing.T) {
	none := []int{}
	alive(t, "halt", none)
	alive(t, "fail r3", none)
	alive(t, "l0:; jump l0", none)
	alive(t, "emit r1; zero r2 l3; emit r3; l3:; halt", []int{2, 3}, []int{3}, none, none)
	alive(t, "const r3 5; const r4 6; add r5 r3 r4; emit r5; halt", []int{3}, []int{3, 4}, []int{5}, none, none)
	// set ahead of being read; read and set at once
	alive(t, "emit r1; const r3 5; emit r3; halt", none, []int{3}, none, none)
	alive(t, "emit r1; neg r3 r3; emit r3; halt", []int{3}, []int{3}, none, none)
	alive(t, "emit r1; move r3 r3; halt", []int{3}, none, none)
	alive(t, "emit r1; move r3 r3; emit r3; halt", []int{3}, []int{3}, none, none)
	// either way
	alive(t, "zero r1 l3; const r3 5; jump l4; l3:; emit r2; l4:; emit r3; halt", []int{2, 3}, []int{3}, []int{3}, []int{3}, none, none)
	alive(t, "other r1 l2; fail r3; l2:; fail r4", []int{3, 4}, none, none)
	// what can't be come to, too, but not behind what ends
	alive(t, "emit r1; halt; emit r3; halt", none, none, none, none)
	alive(t, "halt; emit r3; emit r4; halt", none, []int{4}, none, none)
	alive(t, "fail r1; emit r3; halt", none, none, none)
	alive(t, "jump l2; emit r3; l2:; emit r4; halt", []int{4}, []int{4}, none, none)
	// the first and the last register
	alive(t, "zero r9 l2; emit r0; l2:; emit r15; halt", []int{0, 15}, []int{15}, none, none)
}

// P12.1: a register that is read only by way of a loop
func TestLiveInLoops(t *testing.T) {
	none := []int{}
	alive(t, "l0:; emit r3; const r3 5; jump l0", []int{}, []int{3}, []int{3})
	alive(t, "const r4 1; l1:; emit r3; const r3 5; other r1 l1; halt", []int{1, 3}, []int{1}, []int{1, 3}, []int{1, 3}, none)
	alive(t, "const r3 5; l1:; const r3 6; emit r3; other r1 l1; halt", []int{1}, []int{1, 3}, []int{1}, []int{1}, none)
	alive(t, "l0:; emit r1; jump l2; l1:; emit r4; jump l0; l2:; emit r2; jump l1", []int{1, 2, 4}, []int{1, 2, 4}, []int{1, 2, 4}, []int{1, 2, 4}, []int{1, 2, 4}, []int{1, 2, 4})
	// what is read at the first place, and live behind the last one by way of all between
	alive(t, "jump l5; l1:; emit r3; halt; l3:; emit r1; jump l1; l5:; emit r1; jump l3", []int{1, 3}, none, none, []int{3}, []int{3}, []int{1, 3}, []int{1, 3})
}

// P12.1: of each kind, what it reads and what it sets
func TestLiveOfEachKind(t *testing.T) {
	const all = 1<<16 - 1
	readsAll := func() []api.Ins {
		var l []api.Ins
		for r := range 16 {
			l = append(l, api.Ins{Kind: api.InsEmit, A: r})
		}
		return append(l, api.Ins{Kind: api.InsHalt})
	}
	for _, c := range []struct {
		x           api.Ins
		reads, sets uint32
	}{
		{api.Ins{Kind: api.InsConst, A: 1, K: 6}, 0, 1 << 1},
		{api.Ins{Kind: api.InsMove, A: 1, B: 2}, 1 << 2, 1 << 1},
		{api.Ins{Kind: api.InsOne, Op: api.OpNot, A: 1, B: 2}, 1 << 2, 1 << 1},
		{api.Ins{Kind: api.InsTwo, Op: api.OpDiv, A: 1, B: 2, C: 3}, 1<<2 | 1<<3, 1 << 1},
		{api.Ins{Kind: api.InsLoad, A: 1, B: 2, K: 6}, 1 << 2, 1 << 1},
		{api.Ins{Kind: api.InsStore, A: 1, B: 2, K: 6}, 1<<1 | 1<<2, 0},
		{api.Ins{Kind: api.InsInto, A: 1, C: 3}, 1 << 1, 0},
		{api.Ins{Kind: api.InsEmit, A: 1}, 1 << 1, 0},
		{api.Ins{Kind: api.InsJump, K: 2}, 0, 0},
		{api.Ins{Kind: api.InsZero, A: 1, K: 2}, 1 << 1, 0},
		{api.Ins{Kind: api.InsOther, A: 1, K: 2}, 1 << 1, 0},
	} {
		first := api.Ins{Kind: api.InsJump, K: 1}
		l := append([]api.Ins{first, c.x}, readsAll()...)
		if got := asked(t, Live, l); got[0] != all&^c.sets|c.reads || got[1] != all || got[2] != all-1 {
			t.Errorf("%v: %b", c.x, got)
		}
		l = []api.Ins{first, c.x, {Kind: api.InsHalt}}
		if got := asked(t, Live, l); got[0] != c.reads || got[1] != 0 || got[2] != 0 {
			t.Errorf("%v: %b", c.x, got)
		}
	}
	for _, c := range []struct {
		x     api.Ins
		reads uint32
	}{{api.Ins{Kind: api.InsHalt}, 0}, {api.Ins{Kind: api.InsFail, A: 1}, 1 << 1}} {
		l := append([]api.Ins{{Kind: api.InsJump, K: 1}, c.x}, readsAll()...)
		if got := asked(t, Live, l); got[0] != c.reads || got[1] != 0 {
			t.Errorf("%v: %b", c.x, got)
		}
	}
}

// P12.1
func TestDead(t *testing.T) {
	becomes(t, Dead, [][2]string{
		{"const r3 5; halt", "move r0 r0; halt"},
		{"move r3 r1; halt", "move r0 r0; halt"},
		{"neg r3 r1; com r4 r1; not r5 r1; halt", "move r0 r0; move r0 r0; move r0 r0; halt"},
		{"move r3 r3; halt", "move r0 r0; halt"},
		{"move r0 r0; const r0 5; halt", "move r0 r0; move r0 r0; halt"},
		{"const r3 5; const r3 6; emit r3; halt", "move r0 r0; const r3 6; emit r3; halt"},
		// as the instructions stood: what one reads that goes isn't gone yet
		{"const r3 5; neg r4 r3; halt", "const r3 5; move r0 r0; halt"},
		{"const r0 5; const r3 6; halt", "move r0 r0; move r0 r0; halt"},
		// what can't be come to
		{"emit r3; halt; const r3 5; halt", "emit r3; halt; move r0 r0; halt"},
		{"halt; const r3 5; emit r3; const r3 6; halt", "halt; const r3 5; emit r3; move r0 r0; halt"},
		// set by either way
		{"const r3 5; zero r1 l3; const r3 6; l3:; const r3 7; emit r3; halt", "move r0 r0; zero r1 l3; move r0 r0; l3:; const r3 7; emit r3; halt"},
		{"const r3 5; zero r1 l3; const r3 6; l3:; halt", "move r0 r0; zero r1 l3; move r0 r0; l3:; halt"},
		{"l0:; const r3 5; jump l0", "l0:; move r0 r0; jump l0"},
	})
	stays(t, Dead, []string{
		"halt", "l0:; jump l0",
		"const r3 5; fail r3",
		"const r3 5; move r4 r3; neg r5 r4; add r6 r5 r5; emit r6; halt",
		"const r3 5; zero r1 l3; const r3 6; l3:; emit r3; halt",
		"const r3 5; zero r3 l2; l2:; halt", "const r3 5; other r3 l2; l2:; halt",
		"const r3 5; into r3 0; halt", "const r3 5; store r1 r3 0; halt", "const r3 5; store r3 r1 0; halt", "const r3 5; load r4 r3 0; halt",
		"move r3 r3; emit r3; halt", "move r0 r0; emit r0; halt",
		// read only by way of a loop
		"l0:; emit r3; const r3 5; other r1 l0; halt",
		"l0:; emit r3; neg r3 r3; jump l0",
	})
}

// P12.1: each kind, whose register nobody reads, or somebody does
func TestDeadEachKind(t *testing.T) {
	for _, x := range eachKind() {
		l := []api.Ins{x, {Kind: api.InsHalt}, {Kind: api.InsHalt}, {Kind: api.InsHalt}, {Kind: api.InsHalt}}
		want := slices.Clone(l)
		switch x.Kind {
		case api.InsConst, api.InsMove, api.InsOne, api.InsTwo:
			want[0] = api.Ins{Kind: api.InsMove}
		}
		if got := asked(t, Dead, l); !slices.Equal(got, want) {
			t.Errorf("%v: %v, not %v", l, got, want)
		}
		l[1], l[4] = api.Ins{Kind: api.InsEmit, A: 4}, api.Ins{Kind: api.InsFail, A: 4}
		if got := asked(t, Dead, l); !slices.Equal(got, l) {
			t.Errorf("%v: %v", l, got)
		}
	}
}

// P12.1: what divides stays, since it may end the task, whoever reads its register
func TestDeadEachOp(t *testing.T) {
	for op := api.OpAdd; op <= api.OpMax; op++ {
		l := []api.Ins{{Kind: api.InsTwo, Op: op, A: 3, B: 1, C: 2}, {Kind: api.InsHalt}}
		want := slices.Clone(l)
		if op != api.OpDiv && op != api.OpRem {
			want[0] = api.Ins{Kind: api.InsMove}
		}
		if got := asked(t, Dead, l); !slices.Equal(got, want) {
			t.Errorf("%v: %v, not %v", l, got, want)
		}
	}
	stays(t, Dead, []string{"const r2 5; div r3 r1 r2; halt", "const r2 5; rem r3 r1 r2; halt"})
}
