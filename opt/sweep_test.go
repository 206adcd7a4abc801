package opt

import (
	"slices"
	"testing"

	"outrider/api"
)

// P12.1: what can't be come to goes
func TestSweepNotComeTo(t *testing.T) {
	becomes(t, Sweep, [][2]string{
		{"halt; halt", "halt"},
		{"fail r1; halt", "fail r1"},
		{"emit r1; halt; emit r2; halt", "emit r1; halt"},
		{"l0:; jump l0; halt", "l0:; jump l0"},
		// though they jump to one another, or to what stays
		{"l0:; emit r1; halt; l2:; emit r2; jump l3; l3:; zero r1 l2; jump l0", "emit r1; halt"},
		{"emit r1; jump l3; emit r2; l3:; emit r3; halt", "emit r1; emit r3; halt"},
		{"zero r1 l3; emit r1; halt; l3:; emit r2; halt; emit r3; halt", "zero r1 l3; emit r1; halt; l3:; emit r2; halt"},
		{"other r1 l4; emit r1; halt; emit r2; l4:; emit r3; halt", "other r1 l3; emit r1; halt; l3:; emit r3; halt"},
	})
	stays(t, Sweep, []string{
		"halt", "fail r1", "l0:; jump l0", "emit r1; halt",
		"jump l3; l1:; emit r1; halt; l3:; emit r2; jump l1",
		"zero r1 l2; halt; l2:; halt",
		// come to from the last place alone
		"jump l5; l1:; emit r1; halt; l3:; emit r2; jump l1; l5:; emit r3; jump l3",
	})
}

// P12.1: moves of a register to itself, and of another one
func TestSweepMoves(t *testing.T) {
	for a := range api.Regs {
		for b := range api.Regs {
			move, halt := api.Ins{Kind: api.InsMove, A: a, B: b}, api.Ins{Kind: api.InsHalt}
			want := []api.Ins{move, move, halt}
			if a == b {
				want = want[2:]
			}
			if got := asked(t, Sweep, []api.Ins{move, move, halt}); !slices.Equal(got, want) {
				t.Errorf("%v: %v, not %v", move, got, want)
			}
		}
	}
	becomes(t, Sweep, [][2]string{
		{"l0:; move r1 r1; jump l0", "l0:; jump l0"},
		{"move r0 r0; emit r1; move r5 r5; move r5 r4; halt", "emit r1; move r5 r4; halt"},
	})
}

// P12.1: tests that go to the next place whatever they find; the next place is the one that stands there, though it goes, too
func TestSweepTests(t *testing.T) {
	becomes(t, Sweep, [][2]string{
		{"zero r1 l1; l1:; halt", "halt"},
		{"other r1 l1; l1:; halt", "halt"},
		{"zero r1 l1; l1:; other r1 l2; l2:; zero r2 l3; l3:; emit r1; halt", "emit r1; halt"},
		{"zero r1 l1; l1:; move r2 r2; emit r1; halt", "emit r1; halt"},
		// the one behind goes: it does in the next round, not in this one
		{"zero r1 l2; move r2 r2; l2:; emit r1; halt", "zero r1 l1; l1:; emit r1; halt"},
		{"other r1 l2; move r2 r2; l2:; emit r1; halt", "other r1 l1; l1:; emit r1; halt"},
		{"other r1 l2; jump l2; l2:; emit r1; halt", "other r1 l1; l1:; emit r1; halt"},
	})
	stays(t, Sweep, []string{"l0:; zero r1 l0; halt", "l0:; other r1 l0; halt", "zero r1 l2; emit r1; l2:; halt", "l0:; emit r1; zero r1 l0; other r1 l0; halt"})
}

// P12.1: jumps to a later place go, if all go between
func TestSweepJumps(t *testing.T) {
	becomes(t, Sweep, [][2]string{
		{"jump l1; l1:; halt", "halt"},
		{"jump l2; halt; l2:; emit r1; halt", "emit r1; halt"},
		{"jump l3; emit r1; emit r2; l3:; halt", "halt"},
		// over what is come to otherwise, and goes
		{"zero r1 l2; jump l4; l2:; move r3 r3; zero r1 l4; l4:; emit r1; halt", "zero r1 l1; l1:; emit r1; halt"},
		{"other r1 l2; jump l5; l2:; move r3 r3; jump l5; emit r7; l5:; emit r1; halt", "other r1 l1; l1:; emit r1; halt"},
		// jump over jump
		{"jump l1; l1:; jump l2; l2:; jump l3; l3:; halt", "halt"},
		{"zero r1 l3; zero r2 l4; jump l5; l3:; jump l5; l4:; jump l5; l5:; emit r1; halt", "zero r1 l2; zero r2 l2; l2:; emit r1; halt"},
		// a ring: the jump back stays, though all between go
		{"l0:; jump l1; l1:; jump l0", "l0:; jump l0"},
		{"l0:; jump l1; l1:; jump l2; l2:; jump l0", "l0:; jump l0"},
		{"l0:; emit r1; move r2 r2; jump l0", "l0:; emit r1; jump l0"},
	})
	stays(t, Sweep, []string{
		"l0:; jump l0", "l0:; emit r1; jump l0",
		"zero r1 l2; jump l3; l2:; emit r1; l3:; halt",
		"zero r1 l3; zero r2 l4; jump l5; l3:; emit r1; l4:; emit r2; l5:; halt",
	})
}

// P12.1: targets ahead of, at and behind what went
func TestSweepTargets(t *testing.T) {
	becomes(t, Sweep, [][2]string{
		{"move r1 r1; l1:; emit r1; jump l1", "l0:; emit r1; jump l0"},
		{"l0:; move r1 r1; emit r1; jump l0", "l0:; emit r1; jump l0"},
		{"emit r2; l1:; move r1 r1; move r2 r2; emit r1; jump l1", "emit r2; l1:; emit r1; jump l1"},
		{"zero r1 l3; emit r1; halt; l3:; move r1 r1; move r2 r2; emit r2; halt", "zero r1 l3; emit r1; halt; l3:; emit r2; halt"},
		{"other r1 l4; emit r1; halt; emit r9; l4:; jump l6; emit r8; l6:; emit r2; halt", "other r1 l3; emit r1; halt; l3:; emit r2; halt"},
		{"zero r1 l2; emit r1; l2:; other r1 l3; l3:; zero r2 l2; halt", "zero r1 l2; emit r1; l2:; zero r2 l2; halt"},
		{"l0:; zero r1 l5; l1:; zero r2 l4; move r3 r3; other r1 l1; l4:; move r4 r4; l5:; other r2 l0; halt", "l0:; zero r1 l3; l1:; zero r2 l3; other r1 l1; l3:; other r2 l0; halt"},
	})
}

// P12.1: each kind that is come to, and each that isn't
func TestSweepEachKind(t *testing.T) {
	for _, x := range eachKind() {
		emit, halt := api.Ins{Kind: api.InsEmit, A: 4}, api.Ins{Kind: api.InsHalt}
		l := []api.Ins{{Kind: api.InsZero, A: 1, K: 3}, x, emit, emit, {Kind: api.InsHalt}}
		want := slices.Clone(l)
		if x.Kind == api.InsHalt || x.Kind == api.InsFail || x.Kind == api.InsJump {
			want = slices.Concat(l[:2], l[3:])
			want[0].K = 2
			if x.Kind == api.InsJump {
				want[1].K = 3
			}
		}
		if got := asked(t, Sweep, l); !slices.Equal(got, want) {
			t.Errorf("%v: %v, not %v", l, got, want)
		}
		l = []api.Ins{emit, halt, x, emit, {Kind: api.InsJump}}
		if got := asked(t, Sweep, l); !slices.Equal(got, l[:2]) {
			t.Errorf("%v: %v", l, got)
		}
	}
}
