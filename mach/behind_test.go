package mach

import (
	"slices"
	"testing"

	"outrider/api"
)

// P24.2: Retry says how often the oldest begins anew, till it falls back
func TestRetry(t *testing.T) {
	code := "load r3 r9 0; store r0 r9 1; halt"
	for _, retry := range []int{0, 1, 2, 9} {
		c := roomy()
		c.Retry = retry
		p := start(t, staged(t, code, code), c)
		p.play("0 1", "begin 0 0", "begin 1 1")
		for n := range 12 { // the age 1 isn't the oldest: it may begin anew as often as one likes
			p.play("!1", "abort 1")
			p.hand(1, api.Hand{Age: 1, Inc: n + 1, Mode: api.Ahead})
		}
		for n := 1; n <= retry; n++ {
			p.play("0 !0", "read 0 0 0 -1", "abort 0")
			p.hand(0, api.Hand{Age: 0, Inc: n, Tries: n, Mode: api.Ahead})
		}
		p.stats(api.Stats{Steps: retry, Aborts: 12 + retry})
		p.play("!0", "abort 0")
		p.hand(0, api.Hand{Age: 0, Inc: retry + 1, Tries: retry + 1, Mode: api.Behind})
		p.stats(api.Stats{Steps: retry, Aborts: 13 + retry, Falls: 1})
		p.play("0*3 0", "read 0 0 0 -1", "write 0 1 0", "commit 0")
		p.hand(1, api.Hand{Age: 1, Inc: 12, Mode: api.Ahead})
		p.play("!1", "abort 1") // it is the oldest now, and this its first try
		h := api.Hand{Age: 1, Inc: 13, Tries: 1, Mode: api.Ahead}
		if retry == 0 {
			h.Mode = api.Behind
		}
		p.hand(1, h)
		p.rest()
	}
}

// P24.2: one that runs behind falls as others do, and goes on running behind: Falls stays
func TestFallBehind(t *testing.T) {
	c := roomy()
	c.Retry = 0
	code := "load r3 r9 0; const r4 7; store r4 r9 1; emit r4; into r4 0; halt"
	p := start(t, staged(t, code, code), c)
	p.play("0 1 !0", "begin 0 0", "begin 1 1", "abort 0")
	p.play("0*5", "read 0 0 0 -1", "write 0 1 7", "emit 0 7", "into 0 0 7")
	p.hand(0, api.Hand{Age: 0, Inc: 1, Tries: 1, Mode: api.Behind, Writes: 1, Outs: 1})
	p.used(0, 0)
	p.play("!0", "abort 0")
	p.hand(0, api.Hand{Age: 0, Inc: 2, Tries: 2, Mode: api.Behind})
	p.stats(api.Stats{Steps: 5, Aborts: 2, Falls: 1})
	p.play("0*6 !0", "read 0 0 0 -1", "write 0 1 7", "emit 0 7", "into 0 0 7", "abort 0")
	p.play("0*7", "read 0 0 0 -1", "write 0 1 7", "emit 0 7", "into 0 0 7", "commit 0")
	if r := p.Result(); !slices.Equal(r.Outs, []int64{7}) || !slices.Equal(r.Reds, []int64{7, -5}) {
		t.Error(r) // what fell is gone
	}
	p.stats(api.Stats{Steps: 17, Commits: 1, Aborts: 3, Falls: 1})
	p.rest()
}

// P24.2: with Force all run behind, from their beginning on, each in its turn
func TestForce(t *testing.T) {
	c := roomy()
	c.Force, c.Workers, c.Window = true, 3, 2
	p := start(t, looped(t, 4, "m[0] = m[0] + 1; emit m[0]; into 1 m[0];"), c)
	p.play("1 0 2", "begin 1 0", "begin 0 1")
	p.hand(0, api.Hand{Age: 1, Mode: api.Behind})
	p.play("0*9") // it isn't the oldest: nothing happens, and nobody counts it
	p.stats(api.Stats{})
	p.play("!0", "abort 1")
	p.hand(0, api.Hand{Age: 1, Inc: 1, Mode: api.Behind})
	p.play("1*20 2", "read 0 0 0 -1", "write 0 0 1", "emit 0 1", "into 0 1 1", "commit 0", "begin 2 2")
	p.play("!0 0*3", "abort 1", "read 1 0 1 -1")
	p.hand(0, api.Hand{Age: 1, Inc: 2, Tries: 1, Mode: api.Behind})
	p.rest()
	if s := p.Stats(); s.Falls != 0 || s.Stalls != 0 || s.Aborts != 2 || s.Forwards != 0 {
		t.Error(s)
	}
}

// P24.2: a load behind gets what was written behind, else the memory's word, as often as it asks
func TestLoadsBehind(t *testing.T) {
	c := roomy()
	c.Force = true
	c.Reads, c.Writes, c.Outs, c.Arena = 1, 1, 1, 1
	p := start(t, staged(t, "const r3 5; load r4 r9 0; load r4 r9 0; store r3 r9 0; load r4 r9 0; emit r4; emit r9; emit r3; load r4 r9 1; store r4 r9 3; load r4 r9 3; store r9 r9 0; store r4 r9 2; halt", "load r4 r9 0; load r4 r9 3; halt"), c)
	p.play("0 1 0*4", "begin 0 0", "begin 1 1", "read 0 0 0 -1", "read 0 0 0 -1", "write 0 0 5")
	p.play("0*7", "emit 0 5", "emit 0 0", "emit 0 5", "read 0 1 0 -1", "write 0 3 0")
	p.hand(0, api.Hand{Age: 0, Mode: api.Behind, Writes: 2, Outs: 3})
	p.play("0*3", "write 0 0 0", "write 0 2 0")
	p.hand(0, api.Hand{Age: 0, Mode: api.Behind, Over: api.Halted, Writes: 3, Outs: 3})
	p.used(0, 0)
	p.stats(api.Stats{Steps: 14})
	p.play("0 1*3 1", "commit 0", "read 1 0 0 -1", "read 1 3 0 -1", "commit 1")
	p.ended()
}

// P24.2: what commits behind makes those fall who have read something else, word by word; who has read the same stays, and who has read a younger one's
func TestCommitBehind(t *testing.T) {
	c := roomy()
	c.Workers, c.Retry = 6, 0
	j := staged(t,
		"const r3 5; store r3 r9 2; store r9 r9 1; store r3 r9 0; halt",
		"load r3 r9 1; halt",
		"load r3 r9 2; const r4 6; store r4 r9 0; halt",
		"load r3 r9 0; halt",
		"load r3 r9 3; load r4 r9 2; halt",
		"load r3 r9 3; halt")
	p := start(t, j, c)
	p.play("0 1 2 3 4 5 !0", "begin 0 0", "begin 1 1", "begin 2 2", "begin 3 3", "begin 4 4", "begin 5 5", "abort 0")
	p.play("0*5", "write 0 2 5", "write 0 1 0", "write 0 0 5")
	p.play("1 2*3 3 4 4 5", "read 1 1 0 -1", "read 2 2 0 -1", "write 2 0 6", "read 3 0 6 2", "read 4 3 0 -1", "read 4 2 0 -1", "read 5 3 0 -1")
	p.used(1, 1)
	p.play("0", "abort 2", "abort 3", "abort 4", "commit 0")
	p.used(0, 0)
	p.stats(api.Stats{Steps: 13, Commits: 1, Aborts: 4, Falls: 1, Forwards: 1})
	p.hand(1, api.Hand{Age: 1, Mode: api.Ahead, Reads: 1})
	p.hand(2, api.Hand{Age: 2, Inc: 1, Mode: api.Ahead})
	p.hand(5, api.Hand{Age: 5, Mode: api.Ahead, Reads: 1})
	p.rest()
}

// P24.2: the words go by rising places, however they were written, and of each the ages rise
func TestCommitBehindInOrder(t *testing.T) {
	c := roomy()
	c.Retry = 0
	j := staged(t, "const r3 5; store r3 r9 3; store r3 r9 0; halt", "load r3 r9 3; halt", "load r3 r9 0; halt", "load r3 r9 0; load r3 r9 3; halt")
	p := start(t, j, c)
	p.play("0 1 2 3 !0 0*4", "begin 0 0", "begin 1 1", "begin 2 2", "begin 3 3", "abort 0", "write 0 3 5", "write 0 0 5")
	p.play("3*2 2 1", "read 3 0 0 -1", "read 3 3 0 -1", "read 2 0 0 -1", "read 1 3 0 -1")
	p.play("0", "abort 2", "abort 3", "abort 1", "commit 0")
	p.rest()
}

// P24.2: who has read a younger one's version has nothing to do with what commits behind
func TestCommitBehindOfAnotherVersion(t *testing.T) {
	c := roomy()
	c.Retry = 0
	j := staged(t, "const r3 5; store r3 r9 0; halt", "const r3 6; store r3 r9 0; halt", "load r3 r9 0; halt")
	p := start(t, j, c)
	p.play("0 1 2 !0 1*2 2", "begin 0 0", "begin 1 1", "begin 2 2", "abort 0", "write 1 0 6", "read 2 0 6 1")
	p.play("0*4", "write 0 0 5", "commit 0")
	p.used(1, 1)
	p.rest()
	p.stats(api.Stats{Steps: 8, Commits: 3, Aborts: 1, Falls: 1, Forwards: 1})
}

// P24.2: of several that differ from a word that commits behind one falls with another
func TestSeveralDifferBehind(t *testing.T) {
	c := roomy()
	c.Retry = 0
	j := staged(t, "const r3 5; store r3 r9 0; halt", "load r3 r9 0; store r3 r9 1; halt", "load r3 r9 0; load r4 r9 1; halt")
	p := start(t, j, c)
	p.play("0 1 2 !0", "begin 0 0", "begin 1 1", "begin 2 2", "abort 0")
	p.play("1*2 2*2", "read 1 0 0 -1", "write 1 1 0", "read 2 0 0 -1", "read 2 1 0 1")
	p.play("0*4", "write 0 0 5", "abort 1", "abort 2", "commit 0")
	p.stats(api.Stats{Steps: 7, Commits: 1, Aborts: 3, Falls: 1, Forwards: 1})
	p.hand(2, api.Hand{Age: 2, Inc: 1, Mode: api.Ahead})
	p.rest()
}
