package mach

import (
	"testing"

	"outrider/api"
)

// P24.2: a load gets what the task has written, or has read already; such a load is no read
func TestLoadOfItsOwn(t *testing.T) {
	p := start(t, staged(t, "const r3 7; store r3 r9 1; load r4 r9 1; emit r4; load r4 r9 2; load r5 r9 2; store r3 r9 2; load r5 r9 2; emit r5; emit r4; halt"), roomy())
	p.play("0 0*4", "begin 0 0", "write 0 1 7", "emit 0 7")
	p.hand(0, api.Hand{Age: 0, Mode: api.Ahead, Writes: 1, Outs: 1})
	p.play("0*2", "read 0 2 0 -1")
	p.hand(0, api.Hand{Age: 0, Mode: api.Ahead, Reads: 1, Writes: 1, Outs: 1})
	p.play("0*4", "write 0 2 7", "emit 0 7", "emit 0 0")
	p.hand(0, api.Hand{Age: 0, Mode: api.Ahead, Reads: 1, Writes: 2, Outs: 3})
	p.stats(api.Stats{Steps: 10})
	p.rest()
}

// P24.2: of the versions of a word a load gets that of the greatest lower age; with none of them the memory's word
func TestLoadOfVersions(t *testing.T) {
	j := staged(t, "const r3 10; store r3 r9 0; halt", "load r3 r9 0; emit r3; halt", "const r3 12; store r3 r9 0; halt", "load r3 r9 0; emit r3; load r4 r9 1; halt", "const r3 14; store r3 r9 0; halt", "load r3 r9 0; emit r3; halt")
	c := roomy()
	c.Workers = 6
	p := start(t, j, c)
	p.play("0 1 2 3 4 5", "begin 0 0", "begin 1 1", "begin 2 2", "begin 3 3", "begin 4 4", "begin 5 5")
	p.play("4*2", "write 4 0 14")
	p.play("3", "read 3 0 0 -1") // there is a version of a greater age alone
	p.stats(api.Stats{Steps: 3})
	p.play("0*2", "abort 3", "write 0 0 10")
	p.play("3", "read 3 0 10 0")
	p.used(2, 1)
	p.stats(api.Stats{Steps: 6, Aborts: 1, Forwards: 1})
	p.play("2*2", "abort 3", "write 2 0 12")
	p.used(3, 0)
	p.play("3*3", "read 3 0 12 2", "emit 3 12", "read 3 1 0 -1")
	p.play("1 5", "read 1 0 10 0", "read 5 0 14 4")
	p.used(3, 3)
	p.stats(api.Stats{Steps: 13, Aborts: 2, Forwards: 4})
	p.rest()
	p.stats(api.Stats{Steps: 21, Commits: 6, Aborts: 2, Forwards: 4})
}

// P24.2: the oldest task that has as many reads as there is room for falls, and runs behind; words that it knows need no room
func TestReadsFull(t *testing.T) {
	c := roomy()
	c.Reads, c.Workers = 2, 2
	code := "const r3 1; store r3 r9 0; load r4 r9 0; load r4 r9 1; load r4 r9 2; load r4 r9 1; load r4 r9 0; load r4 r9 3; emit r4; halt"
	p := start(t, staged(t, code, code), c)
	p.play("1 0 1*7", "begin 1 0", "begin 0 1", "write 0 0 1", "read 0 1 0 -1", "read 0 2 0 -1")
	p.stats(api.Stats{Steps: 7})
	p.hand(1, api.Hand{Age: 0, Mode: api.Ahead, Reads: 2, Writes: 1})
	p.play("0*9", "write 1 0 1", "read 1 1 0 -1", "read 1 2 0 -1") // which isn't the oldest
	p.stats(api.Stats{Steps: 14, Stalls: 2})
	p.hand(0, api.Hand{Age: 1, Mode: api.Ahead, Reads: 2, Writes: 1})
	p.play("1", "abort 0")
	p.stats(api.Stats{Steps: 14, Aborts: 1, Stalls: 2, Falls: 1})
	p.hand(1, api.Hand{Age: 0, Inc: 1, Tries: 1, Mode: api.Behind})
	p.play("1*10", "write 0 0 1", "read 0 1 0 -1", "read 0 2 0 -1", "read 0 1 0 -1", "read 0 3 0 -1", "emit 0 0")
	p.hand(1, api.Hand{Age: 0, Inc: 1, Tries: 1, Mode: api.Behind, Over: api.Halted, Writes: 1, Outs: 1})
	p.play("1", "commit 0")
	p.rest()
	p.stats(api.Stats{Steps: 34, Commits: 2, Aborts: 2, Stalls: 2, Falls: 2})
}

// P24.2: who waits does nothing else: each of its picks is one more stall, and it goes on once it can
func TestFullReadsGoOn(t *testing.T) {
	c := roomy()
	c.Reads = 1
	p := start(t, staged(t, "halt", "load r3 r9 0; load r3 r9 0; load r4 r9 1; halt"), c)
	p.play("0 1 1*2", "begin 0 0", "begin 1 1", "read 1 0 0 -1")
	p.play("1*5")
	p.stats(api.Stats{Steps: 2, Stalls: 5})
	p.hand(1, api.Hand{Age: 1, Mode: api.Ahead, Reads: 1})
	p.play("0*2", "commit 0")
	p.play("1", "abort 1")
	p.hand(1, api.Hand{Age: 1, Inc: 1, Tries: 1, Mode: api.Behind})
	p.stats(api.Stats{Steps: 3, Commits: 1, Aborts: 1, Stalls: 5, Falls: 1})
	p.play("1*4", "read 1 0 0 -1", "read 1 0 0 -1", "read 1 1 0 -1")
	p.play("1", "commit 1")
	p.ended()
}

// P24.2: a load whose edge has no room waits; one whose edge is there needs none
func TestNoRoomForAnEdge(t *testing.T) {
	c := roomy()
	c.Edges = 1
	writer := "const r3 7; store r3 r9 0; store r3 r9 1; halt"
	p := start(t, staged(t, writer, "load r3 r9 0; load r4 r9 1; load r5 r9 2; halt", "load r3 r9 1; halt", "load r3 r9 3; halt"), c)
	p.play("0 1 2 3 0*3", "begin 0 0", "begin 1 1", "begin 2 2", "begin 3 3", "write 0 0 7", "write 0 1 7")
	p.play("1 2*2 3", "read 1 0 7 0", "read 3 3 0 -1")
	p.used(2, 1)
	p.stats(api.Stats{Steps: 5, Stalls: 2, Forwards: 1})
	p.hand(2, api.Hand{Age: 2, Mode: api.Ahead})
	p.play("1*3 2", "read 1 1 7 0", "read 1 2 0 -1")
	p.stats(api.Stats{Steps: 8, Stalls: 3, Forwards: 2})
	p.used(2, 1)
	p.play("0*2", "commit 0")
	p.used(0, 0)
	p.play("2", "read 2 1 7 -1")
	p.rest()
	p.stats(api.Stats{Steps: 12, Commits: 4, Stalls: 3, Forwards: 2})
}

// P24.2: a store of just what a younger one has read lets it be: it leans on the writer from then on; of another value it falls
func TestStoreBelowARead(t *testing.T) {
	c := roomy()
	j := staged(t, "store r9 r9 0; const r3 1; store r3 r9 0; store r3 r9 0; halt", "load r3 r9 0; halt", "load r3 r9 0; halt", "load r3 r9 1; halt")
	p := start(t, j, c)
	p.play("0 1 2 3 1 2 3", "begin 0 0", "begin 1 1", "begin 2 2", "begin 3 3", "read 1 0 0 -1", "read 2 0 0 -1", "read 3 1 0 -1")
	p.used(0, 0)
	p.play("0", "write 0 0 0") // read from the memory, and just so
	p.used(1, 2)
	p.stats(api.Stats{Steps: 4})
	p.play("0*2", "abort 1", "abort 2", "write 0 0 1") // read from this age, and not so any more
	p.used(1, 0)
	p.stats(api.Stats{Steps: 6, Aborts: 2})
	p.play("1 2", "read 1 0 1 0", "read 2 0 1 0")
	p.play("0", "write 0 0 1") // read from this age, and just so
	p.used(1, 2)
	p.stats(api.Stats{Steps: 9, Aborts: 2, Forwards: 2})
	p.hand(1, api.Hand{Age: 1, Inc: 1, Mode: api.Ahead, Reads: 1})
	p.hand(3, api.Hand{Age: 3, Mode: api.Ahead, Reads: 1})
	p.play("!0", "abort 0", "abort 1", "abort 2")
	p.rest()
}

// P24.2: a store between a writer and who has read from it: the same value moves the read, and its old edge stays; another one makes it fall
func TestStoreBetween(t *testing.T) {
	between := func(value string) *player {
		j := staged(t, "const r3 5; store r3 r9 0; const r3 6; store r3 r9 0; halt", "const r3 "+value+"; store r3 r9 0; halt", "load r3 r9 0; halt")
		p := start(t, j, roomy())
		p.play("0 1 2 0*2 2 1", "begin 0 0", "begin 1 1", "begin 2 2", "write 0 0 5", "read 2 0 5 0")
		p.used(1, 1)
		return p
	}
	p := between("5")
	p.play("1", "write 1 0 5")
	p.used(2, 2)
	p.play("0*2", "write 0 0 6") // the read is from the age 1 now: so this is no matter
	p.hand(2, api.Hand{Age: 2, Mode: api.Ahead, Reads: 1})
	p.play("!0", "abort 0", "abort 2") // but it leans on both
	p.used(1, 0)
	p.rest()
	p.stats(api.Stats{Steps: 15, Commits: 3, Aborts: 2, Forwards: 2})

	p = between("5")
	p.play("1 !1", "write 1 0 5", "abort 1", "abort 2")
	p.used(1, 0)
	p.play("2", "read 2 0 5 0")
	p.rest()

	p = between("8")
	p.play("1", "abort 2", "write 1 0 8")
	p.used(2, 0)
	p.play("2", "read 2 0 8 1")
	p.rest()
}

// P24.2: a store by a lower age than the one that a word was read from is no matter; nor is one of a greater age, nor of what was written ahead of reading it
func TestStoreElsewhere(t *testing.T) {
	j := staged(t, "const r3 5; store r3 r9 0; halt", "const r3 6; store r3 r9 0; load r4 r9 0; halt", "load r3 r9 0; halt", "const r3 9; store r3 r9 0; halt")
	p := start(t, j, roomy())
	p.play("0 1 2 3 1*3 2", "begin 0 0", "begin 1 1", "begin 2 2", "begin 3 3", "write 1 0 6", "read 2 0 6 1")
	p.play("3*2", "write 3 0 9")
	p.play("0*2", "write 0 0 5")
	p.used(3, 1)
	p.stats(api.Stats{Steps: 8, Forwards: 1})
	p.rest()
	p.stats(api.Stats{Steps: 12, Commits: 4, Forwards: 1})
}

// P24.2: a store of the value that was read, with no room for the edge: it differs, though room comes of another one's fall
func TestNoRoomForAnEdgeAtAStore(t *testing.T) {
	c := roomy()
	c.Edges = 1
	j := staged(t, "store r9 r9 0; halt", "load r3 r9 0; halt", "load r3 r9 0; halt", "load r3 r9 0; halt")
	p := start(t, j, c)
	p.play("0 1 2 3 1 2 3", "begin 0 0", "begin 1 1", "begin 2 2", "begin 3 3", "read 1 0 0 -1", "read 2 0 0 -1", "read 3 0 0 -1")
	p.play("0", "abort 2", "abort 3", "write 0 0 0")
	p.used(1, 1)
	p.hand(1, api.Hand{Age: 1, Mode: api.Ahead, Reads: 1})
	p.play("!1", "abort 1")
	p.used(1, 0)
	p.rest()

	// the age 2 leans on the age 1, which differs: so it falls with it, and its edge is free, but the age 3 had none
	j = staged(t, "const r3 1; store r3 r9 0; store r9 r9 1; halt", "load r3 r9 0; store r9 r9 2; halt", "load r3 r9 2; load r4 r9 0; halt", "load r3 r9 1; load r4 r9 1; halt")
	p = start(t, j, c)
	p.play("0 1 2 3", "begin 0 0", "begin 1 1", "begin 2 2", "begin 3 3")
	p.play("1*2 2 3", "read 1 0 0 -1", "write 1 2 0", "read 2 2 0 1", "read 3 1 0 -1")
	p.used(1, 1)
	p.play("0*2", "abort 1", "abort 2", "write 0 0 1")
	p.used(1, 0)
	p.play("0", "write 0 1 0")
	p.used(2, 1)
	p.play("1") // there is no room for its edge
	p.stats(api.Stats{Steps: 7, Aborts: 2, Stalls: 1, Forwards: 1})
	p.rest()
}

// P24.2: of several that differ one falls with another, and then no more by itself
func TestSeveralDiffer(t *testing.T) {
	j := staged(t, "const r3 1; store r3 r9 0; halt", "load r3 r9 0; store r3 r9 1; halt", "load r3 r9 0; load r4 r9 1; halt", "load r3 r9 0; halt")
	p := start(t, j, roomy())
	p.play("0 1 2 3", "begin 0 0", "begin 1 1", "begin 2 2", "begin 3 3")
	p.play("3 2 1*2 2", "read 3 0 0 -1", "read 2 0 0 -1", "read 1 0 0 -1", "write 1 1 0", "read 2 1 0 1")
	p.used(1, 1)
	p.play("0*2", "abort 1", "abort 2", "abort 3", "write 0 0 1")
	p.stats(api.Stats{Steps: 7, Aborts: 3, Forwards: 1})
	p.hand(2, api.Hand{Age: 2, Inc: 1, Mode: api.Ahead})
	p.used(1, 0)
	p.rest()
}

// P24.2: an age falls with those who lean on it, in more than one way, each once; others stay
func TestFallInSeveralWays(t *testing.T) {
	j := staged(t, "const r3 1; store r3 r9 0; halt", "load r3 r9 0; store r3 r9 1; halt", "load r3 r9 0; store r3 r9 2; halt", "load r3 r9 1; load r3 r9 2; load r3 r9 0; store r3 r9 3; halt", "load r3 r9 3; halt", "store r9 r9 3; halt")
	c := roomy()
	c.Workers = 6
	p := start(t, j, c)
	p.play("5 4 3 2 1 0", "begin 5 0", "begin 4 1", "begin 3 2", "begin 2 3", "begin 1 4", "begin 0 5")
	p.play("5*2 4*2 3*2", "write 0 0 1", "read 1 0 1 0", "write 1 1 1", "read 2 0 1 0", "write 2 2 1")
	p.play("2*4 1 0", "read 3 1 1 1", "read 3 2 1 2", "read 3 0 1 0", "write 3 3 1", "read 4 3 1 3", "write 5 3 0")
	p.used(5, 6)
	p.stats(api.Stats{Steps: 12, Forwards: 6})
	p.play("!3", "abort 2", "abort 3", "abort 4")
	p.used(3, 1)
	p.play("3*2 2*4 1", "read 2 0 1 0", "write 2 2 1", "read 3 1 1 1", "read 3 2 1 2", "read 3 0 1 0", "write 3 3 1", "read 4 3 1 3")
	p.play("!5", "abort 0", "abort 1", "abort 2", "abort 3", "abort 4")
	p.used(1, 0)
	p.stats(api.Stats{Steps: 19, Aborts: 8, Forwards: 11})
	p.hand(5, api.Hand{Age: 0, Inc: 1, Tries: 1, Mode: api.Ahead})
	p.hand(2, api.Hand{Age: 3, Inc: 2, Mode: api.Ahead})
	p.hand(0, api.Hand{Age: 5, Mode: api.Ahead, Writes: 1})
	p.rest()
}

// P24.2: a word that is written again needs no room, neither in the log nor of a slot
func TestStoreAgain(t *testing.T) {
	c := roomy()
	c.Writes, c.Arena = 1, 2
	j := staged(t, "halt", "store r0 r9 0; store r9 r9 0; store r1 r9 0; store r9 r9 1; halt", "store r0 r9 3; store r9 r9 3; halt")
	p := start(t, j, c)
	p.play("0 1 2 1 2", "begin 0 0", "begin 1 1", "begin 2 2", "write 1 0 1", "write 2 3 2")
	p.used(2, 0)
	p.play("1*2 2", "write 1 0 0", "write 1 0 0", "write 2 3 0")
	p.used(2, 0)
	p.stats(api.Stats{Steps: 5})
	p.play("1*3")
	p.stats(api.Stats{Steps: 5, Stalls: 3})
	p.rest()
}

// P24.2: as many words written as there is room for, by the oldest and by another one
func TestWritesFull(t *testing.T) {
	c := roomy()
	c.Writes = 2
	code := "const r3 1; store r3 r9 0; store r0 r9 1; store r3 r9 0; store r3 r9 2; halt"
	p := start(t, staged(t, code, code), c)
	p.play("0 1 1*6", "begin 0 0", "begin 1 1", "write 1 0 1", "write 1 1 1", "write 1 0 1")
	p.hand(1, api.Hand{Age: 1, Mode: api.Ahead, Writes: 2})
	p.stats(api.Stats{Steps: 4, Stalls: 2})
	p.play("0*4", "write 0 0 1", "write 0 1 0", "write 0 0 1")
	p.used(4, 0)
	p.play("0", "abort 0")
	p.used(2, 0)
	p.hand(0, api.Hand{Age: 0, Inc: 1, Tries: 1, Mode: api.Behind})
	p.stats(api.Stats{Steps: 8, Aborts: 1, Stalls: 2, Falls: 1})
	p.play("0*6", "write 0 0 1", "write 0 1 0", "write 0 0 1", "write 0 2 1")
	p.hand(0, api.Hand{Age: 0, Inc: 1, Tries: 1, Mode: api.Behind, Over: api.Halted, Writes: 3})
	p.used(2, 0)
	p.rest()
	p.stats(api.Stats{Steps: 20, Commits: 2, Aborts: 2, Stalls: 2, Falls: 2})
}

// P24.2: as many outputs as there is room for, by the oldest and by another one; numbers for reductions need none
func TestOutsFull(t *testing.T) {
	c := roomy()
	c.Outs = 2
	p := start(t, looped(t, 2, "emit n; emit 5; into 0 1; into 0 2; into 1 n; into 1 9; emit 6;"), c)
	p.play("0 1 1*30", "begin 0 0", "begin 1 1", "emit 1 1", "emit 1 5", "into 1 0 1", "into 1 0 2", "into 1 1 1", "into 1 1 9")
	p.hand(1, api.Hand{Age: 1, Mode: api.Ahead, Outs: 2})
	p.play("0*12", "emit 0 0", "emit 0 5", "into 0 0 1", "into 0 0 2", "into 0 1 0", "into 0 1 9", "abort 0")
	p.hand(0, api.Hand{Age: 0, Inc: 1, Tries: 1, Mode: api.Behind})
	p.play("0*13", "emit 0 0", "emit 0 5", "into 0 0 1", "into 0 0 2", "into 0 1 0", "into 0 1 9", "emit 0 6")
	p.hand(0, api.Hand{Age: 0, Inc: 1, Tries: 1, Mode: api.Behind, Over: api.Halted, Outs: 3})
	p.rest()
	if s := p.Stats(); s.Falls != 2 {
		t.Error(s)
	}
}

// P24.2: without a free slot one that isn't the oldest waits, till there is one
func TestArenaFull(t *testing.T) {
	c := roomy()
	c.Arena = 1
	store := "store r0 r9 0; halt"
	p := start(t, staged(t, store, store, store), c)
	p.play("0 1 2 0 1 2 2", "begin 0 0", "begin 1 1", "begin 2 2", "write 0 0 0")
	p.stats(api.Stats{Steps: 1, Stalls: 3})
	p.play("0*2 2", "commit 0", "write 2 0 2")
	p.used(1, 0)
	p.play("1", "abort 2", "write 1 0 1") // it is the oldest now: it takes the slot of the age 2
	p.stats(api.Stats{Steps: 4, Commits: 1, Aborts: 1, Stalls: 3, Evicts: 1})
	p.play("2", "")
	p.stats(api.Stats{Steps: 4, Commits: 1, Aborts: 1, Stalls: 4, Evicts: 1})
	p.rest()
}

// P24.2: the oldest takes slots from the greatest age that has versions, and from those who lean on it
func TestEvict(t *testing.T) {
	c := roomy()
	c.Arena, c.Workers = 4, 5
	j := staged(t, "store r0 r9 0; store r0 r9 1; store r0 r9 2; halt", "store r0 r9 2; halt", "store r0 r9 3; store r0 r9 1; halt", "load r3 r9 3; halt", "load r3 r9 2; halt")
	p := start(t, j, c)
	p.play("0 1 2 3 4", "begin 0 0", "begin 1 1", "begin 2 2", "begin 3 3", "begin 4 4")
	p.play("0 1 2*2 3 4", "write 0 0 0", "write 1 2 1", "write 2 3 2", "write 2 1 2", "read 3 3 2 2", "read 4 2 1 1")
	p.used(4, 2)
	p.play("0", "abort 2", "abort 3", "write 0 1 0")
	p.used(3, 1)
	p.stats(api.Stats{Steps: 7, Aborts: 2, Evicts: 1, Forwards: 2})
	p.play("2 0", "write 2 3 2", "abort 2", "write 0 2 0")
	p.used(4, 1)
	p.stats(api.Stats{Steps: 9, Aborts: 3, Evicts: 2, Forwards: 2})
	p.hand(2, api.Hand{Age: 2, Inc: 2, Mode: api.Ahead})
	p.rest()
}

// P24.2: the oldest that has all slots itself falls, and runs behind, without Evicts
func TestArenaIsItsOwn(t *testing.T) {
	c := roomy()
	c.Arena = 2
	p := start(t, staged(t, "store r0 r9 0; store r0 r9 1; store r0 r9 2; halt", "store r0 r9 3; halt"), c)
	p.play("0 1 0*2 1", "begin 0 0", "begin 1 1", "write 0 0 0", "write 0 1 0")
	p.stats(api.Stats{Steps: 2, Stalls: 1})
	p.play("0", "abort 0")
	p.stats(api.Stats{Steps: 2, Aborts: 1, Stalls: 1, Falls: 1})
	p.used(0, 0)
	p.play("1 0*3", "write 1 3 1", "write 0 0 0", "write 0 1 0", "write 0 2 0")
	p.used(1, 0)
	p.rest()
	p.stats(api.Stats{Steps: 8, Commits: 2, Aborts: 1, Stalls: 1, Falls: 1})
}

// P24.2: an evicted one isn't the oldest: so it has no tries, and doesn't fall back
func TestEvictedAgain(t *testing.T) {
	c := roomy()
	c.Arena, c.Retry = 2, 0
	p := start(t, staged(t, "store r0 r9 0; store r0 r9 1; store r0 r9 0; store r0 r9 2; halt", "store r0 r9 3; halt"), c)
	p.play("0 1 0 1 0", "begin 0 0", "begin 1 1", "write 0 0 0", "write 1 3 1", "abort 1", "write 0 1 0")
	p.hand(1, api.Hand{Age: 1, Inc: 1, Mode: api.Ahead})
	p.play("1 0 0", "write 0 0 0", "abort 0")
	p.stats(api.Stats{Steps: 4, Aborts: 2, Stalls: 1, Evicts: 1, Falls: 1})
	p.rest()
}
