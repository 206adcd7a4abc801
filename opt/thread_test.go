package opt

import (
	"slices"
	"testing"

	"outrider/api"
)

// P12.1: from jump to jump, of each kind that has a target
func TestThread(t *testing.T) {
	becomes(t, Thread, [][2]string{
		{"jump l2; halt; l2:; jump l4; halt; l4:; emit r1; halt", "jump l4; halt; jump l4; halt; l4:; emit r1; halt"},
		{"zero r1 l2; halt; l2:; jump l4; halt; l4:; emit r1; halt", "zero r1 l4; halt; jump l4; halt; l4:; emit r1; halt"},
		{"other r1 l2; halt; l2:; jump l4; halt; l4:; emit r1; halt", "other r1 l4; halt; jump l4; halt; l4:; emit r1; halt"},
		// over several, forth and back
		{"zero r1 l4; l1:; jump l3; l2:; emit r1; halt; l3:; jump l2; l4:; jump l5; l5:; jump l1", "zero r1 l2; jump l2; l2:; emit r1; halt; jump l2; jump l2; jump l2"},
		// to itself by way of another
		{"l0:; zero r1 l1; halt; l1:; jump l0", "l0:; zero r1 l0; halt; jump l0"},
		// not over what isn't a jump
		{"jump l1; l1:; zero r1 l2; halt; l2:; jump l3; l3:; emit r1; halt", "jump l1; l1:; zero r1 l4; halt; jump l4; l4:; emit r1; halt"},
	})
	stays(t, Thread, []string{
		"halt", "fail r1", "emit r1; halt",
		"jump l1; l1:; emit r1; halt", "zero r1 l2; emit r1; l2:; emit r1; halt", "l0:; emit r1; jump l0", "l0:; zero r1 l0; halt",
		"jump l1; l1:; zero r1 l2; l2:; other r1 l3; l3:; emit r1; halt",
	})
}

// P12.1: a jump to a halt, by whatever way; the others go on there
func TestThreadToHalt(t *testing.T) {
	becomes(t, Thread, [][2]string{
		{"jump l1; l1:; halt", "halt; halt"},
		{"jump l1; l1:; jump l2; l2:; halt", "halt; halt; halt"},
		{"emit r1; l1:; halt; jump l1", "emit r1; halt; halt"},
		{"zero r1 l2; jump l2; l2:; halt", "zero r1 l2; halt; l2:; halt"},
		{"other r1 l2; jump l2; l2:; halt", "other r1 l2; halt; l2:; halt"},
		{"zero r1 l2; emit r1; l2:; jump l3; l3:; halt", "zero r1 l3; emit r1; halt; l3:; halt"},
		{"other r1 l1; l1:; jump l2; l2:; halt", "other r1 l2; halt; l2:; halt"},
	})
	stays(t, Thread, []string{"jump l1; l1:; fail r1", "zero r1 l1; l1:; halt", "other r1 l1; l1:; halt", "jump l1; l1:; move r1 r1; halt"})
}

// P12.1: rings, and what leads to one
func TestThreadRings(t *testing.T) {
	stays(t, Thread, []string{
		"l0:; jump l0",
		"l0:; jump l1; l1:; jump l0",
		"l0:; jump l1; l1:; jump l2; l2:; jump l0",
		"jump l1; l1:; jump l1",
		"jump l1; l1:; jump l2; l2:; jump l3; l3:; jump l2",
		"zero r1 l2; halt; l2:; jump l3; l3:; jump l2",
		"other r1 l2; halt; l2:; jump l2",
		"zero r1 l2; halt; l2:; jump l3; l3:; jump l3",
	})
	becomes(t, Thread, [][2]string{
		{"zero r1 l2; jump l3; l2:; jump l2; l3:; jump l4; l4:; emit r1; halt", "zero r1 l2; jump l4; l2:; jump l2; jump l4; l4:; emit r1; halt"},
	})
}

// P12.1: each kind as what is come to, and as what stays
func TestThreadEachKind(t *testing.T) {
	for _, x := range eachKind() {
		if x.Kind == api.InsJump {
			continue
		}
		l := []api.Ins{{Kind: api.InsZero, A: 1, K: 2}, {Kind: api.InsOther, A: 1, K: 2}, {Kind: api.InsJump, K: 3}, x, {Kind: api.InsHalt}}
		want := slices.Clone(l)
		want[0].K, want[1].K = 3, 3
		if x.Kind == api.InsHalt {
			want[2] = x
		}
		if got := asked(t, Thread, l); !slices.Equal(got, want) {
			t.Errorf("%v: %v, not %v", l, got, want)
		}
	}
}
