package mach

import (
	"slices"
	"testing"

	"outrider/api"
	"outrider/fold"
)

// P24.2: an end of a task that isn't the oldest waits for its turn, and is no stall
func TestEndAhead(t *testing.T) {
	p := start(t, looped(t, 2, "m[n] = 4; emit n; into 0 3;"), roomy())
	p.play("0 1 1*20", "begin 0 0", "begin 1 1", "write 1 1 4", "emit 1 1", "into 1 0 3")
	p.hand(1, api.Hand{Age: 1, Mode: api.Ahead, Over: api.Halted, Writes: 1, Outs: 1})
	p.stats(api.Stats{Steps: 6})
	if r := p.Result(); !fold.Same(r, api.Result{Mem: make([]int64, 4), Reds: []int64{0, -5}}) {
		t.Error(r)
	}
	p.play("0*7", "write 0 0 4", "emit 0 0", "into 0 0 3", "commit 0")
	p.used(1, 0)
	p.play("1", "commit 1")
	if r := p.Result(); !fold.Same(r, api.Result{Mem: []int64{4, 4, 0, 0}, Outs: []int64{0, 1}, Reds: []int64{6, -5}, Count: 2}) {
		t.Error(r)
	}
	p.used(0, 0)
	p.ended()
}

// P24.2: an end of the oldest task with a read that isn't the memory's any more: it falls, however it has ended. (No row of entries comes to it, since whoever reads something else falls ahead of that: so the memory is turned by hand.)
func TestEndWithAnotherRead(t *testing.T) {
	for _, last := range []string{"halt", "fail r4"} {
		c := roomy()
		c.Retry = 1
		m, _ := New(staged(t, "load r3 r9 2; load r4 r9 1; "+last), c)
		m.Pick(1)
		for tries, mode := range []api.Mode{api.Ahead, api.Behind} {
			for range 3 {
				m.Pick(1)
			}
			m.seen.Mem[1]++
			m.Pick(1)
			h := api.Hand{Age: 0, Inc: tries + 1, Tries: tries + 1, Mode: mode}
			if l := m.Events(); l[len(l)-1] != (api.Event{Kind: api.EvAbort}) || m.Hands()[1] != h {
				t.Fatal(said(l), m.Hands())
			}
		}
		if s := m.Stats(); m.Done() || s != (api.Stats{Steps: 6, Aborts: 2, Falls: 1}) {
			t.Error(s)
		}
		for range 3 { // behind nobody asks
			m.Pick(1)
		}
		m.seen.Mem[1]++
		m.Pick(1)
		if s := m.Stats(); !m.Done() || s.Aborts != 2 {
			t.Error(s)
		}
	}
}

// P24.2: each way of ending that isn't Halted, by the oldest one: the run is done, and what it did doesn't count
func TestFaults(t *testing.T) {
	for _, c := range []struct {
		last  string
		over  api.Over
		value int64
	}{
		{"fail r1", api.Failed, 4},
		{"const r3 0; div r3 r1 r3; halt", api.Divided, 0},
		{"load r3 r1 0; halt", api.Outside, 4},
		{"store r3 r9 -1; halt", api.Outside, -1},
		{"again:; jump again", api.Spent, 0},
	} {
		for _, force := range []bool{false, true} {
			config := roomy()
			config.Force = force
			code := "const r1 4; store r1 r9 1; emit r1; into r1 0; " + c.last
			p := start(t, staged(t, "const r4 3; store r4 r9 2; emit r4; into r4 0; halt", code, "store r9 r9 0; load r3 r9 2; halt", code), config)
			p.play("0 1 2 3", "begin 0 0", "begin 1 1", "begin 2 2", "begin 3 3")
			for range 60 { // ahead of its time nothing comes of it
				p.do(api.Entry{Worker: 1})
				p.do(api.Entry{Worker: 3})
				p.do(api.Entry{Worker: 2})
			}
			if !force {
				p.hand(1, api.Hand{Age: 1, Mode: api.Ahead, Over: c.over, Writes: 1, Outs: 1})
				p.used(3, 0)
			}
			for range 70 {
				p.do(api.Entry{Worker: 0})
				p.do(api.Entry{Worker: 2})
			}
			for !p.Done() {
				p.do(api.Entry{Worker: 1})
			}
			want := api.Result{Mem: []int64{0, 0, 3, 0}, Outs: []int64{3}, Reds: []int64{3, -5}, Count: 1, Fault: api.Fault{Age: 1, Over: c.over, Value: c.value}}
			if r := p.Result(); !fold.Same(r, want) {
				t.Errorf("%+v, not %+v", r, want)
			}
			l := p.Events()
			if last := l[len(l)-1]; last != (api.Event{Kind: api.EvFault, Age: 1, At: int(c.over), Value: c.value}) {
				t.Error(last)
			}
			for w := range 4 {
				p.hand(w, api.Hand{Age: -1})
			}
			p.used(0, 0)
			p.ended()
		}
	}
}

// P24.2: the first task, and the last one; a fault of one behind
func TestFaultsAtTheEnds(t *testing.T) {
	for _, c := range []struct {
		source string
		want   api.Result
	}{
		{"fail n - 3;", api.Result{Mem: make([]int64, 4), Reds: []int64{0, -5}, Fault: api.Fault{Over: api.Failed, Value: -3}}},
		{"if (n == 3) { emit 1; fail 0; } m[n] = 1;", api.Result{Mem: []int64{1, 1, 1, 0}, Reds: []int64{0, -5}, Count: 3, Fault: api.Fault{Age: 3, Over: api.Failed}}},
	} {
		for retry := range 2 {
			config := roomy()
			config.Retry = retry
			p := start(t, looped(t, 4, c.source), config)
			p.play("0 1 2 3 !0 !1 !2 !3", "begin 0 0", "begin 1 1", "begin 2 2", "begin 3 3", "abort 0", "abort 1", "abort 2", "abort 3")
			p.rest()
			if r := p.Result(); !fold.Same(r, c.want) {
				t.Errorf("%+v, not %+v", r, c.want)
			}
		}
	}
}

// P24.2: a fuel that is just enough, and one less
func TestFuel(t *testing.T) {
	for _, force := range []bool{false, true} {
		c := roomy()
		c.Force = force
		j := staged(t, "emit r0; emit r0; halt")
		j.Fuel = 3
		p := start(t, j, c)
		p.play("0 0*4", "begin 0 0", "emit 0 0", "emit 0 0", "commit 0")
		p.stats(api.Stats{Steps: 3, Commits: 1})
		j.Fuel = 2
		p = start(t, j, c)
		p.play("0 0*3", "begin 0 0", "emit 0 0", "emit 0 0")
		h := p.Hands()[0]
		if h.Over != api.Spent || h.Outs != 2 {
			t.Error(h)
		}
		p.play("0", "fault 0 5 0")
		p.stats(api.Stats{Steps: 3}) // to end so is a step, too
		p.ended()
	}
}

// P24.2: reductions of each kind, by several tasks, ahead and behind
func TestReductions(t *testing.T) {
	for _, force := range []bool{false, true} {
		for op := api.RedSum; op <= api.RedXor; op++ {
			j := looped(t, 5, "into 1 i * i - 7; into 0 n; into 1 3 - i;")
			j.Reds = []api.Red{{Op: api.RedSum, Init: 1}, {Op: op, Init: 12}}
			c := roomy()
			c.Force = force
			p := start(t, j, c)
			for _, e := range entries("0 1 0*7 1*3 !1 1*9 !0") {
				p.do(e)
			}
			p.rest()
			if r := p.Result(); r.Reds[0] != 11 {
				t.Error(r)
			}
		}
	}
}

// P24.2: outputs stand in the order of the ages, though they were put out in another one
func TestOutsInOrder(t *testing.T) {
	p := start(t, looped(t, 4, "emit n; emit n * 10;"), roomy())
	p.play("0 1 2 3", "begin 0 0", "begin 1 1", "begin 2 2", "begin 3 3")
	for _, script := range []string{"3*9", "2*9", "1*9", "0*4 3*2 0*9"} {
		for _, e := range entries(script) {
			p.do(e)
		}
	}
	p.rest()
	if r := p.Result(); !slices.Equal(r.Outs, []int64{0, 0, 1, 10, 2, 20, 3, 30}) {
		t.Error(r.Outs)
	}
}
