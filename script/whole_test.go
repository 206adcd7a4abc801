package script

import (
	"math/rand"
	"slices"
	"strconv"
	"testing"

	"outrider/api"
	"outrider/fold"
	"outrider/job"
	"outrider/mach"
)

// looped: a job of a loop from 0 below so many, of a source text.
func looped(t *testing.T, many, fuel int, source string) api.Job {
	t.Helper()
	j, line, e := job.Parse("words 24\nred max -5\nfuel " + strconv.Itoa(fuel) + "\nfor 0 " + strconv.Itoa(many) + " 1\ntask {\n" + source + "\n}\n")
	if e != api.OK {
		t.Fatal(line, e, source)
	}
	return j
}

// tangled: what tasks do that have to do with one another, or don't come to their end by themselves.
func tangled() []string {
	return []string{
		"m[0] = m[0] + 1;", "m[0] = m[0] + 1; emit m[0]; m[1] = m[0]; m[2] = 4; m[3] = 5;", "m[i + 1 & 3] = m[i & 3] + 1; into 0 m[0];", "m[m[0]] = m[1] + i; m[0] = i & 1;",
		"var a = m[0]; if (a == 3) { fail 7; } m[0] = a + 1;", "while (1) { m[0] = m[0] + 1; }", "var a = 0; while (a < 5) { m[a] = m[a] + i; a = a + 1; }", "emit i; emit m[i & 1]; m[i & 1] = 1; m[i + 20] = 1;", "emit i;", "while (m[0] < i) { stop; } m[0] = m[0] + 1;",
	}
}

func (r maker) config() api.Config {
	c := api.Config{
		Workers: 1 + r.Intn(5), Window: 1 + r.Intn(6), Policy: api.Policy(1 + r.Intn(3)), Chunk: 1 + r.Intn(3),
		Reads: 1 + r.Intn(4), Writes: 1 + r.Intn(4), Outs: 1 + r.Intn(3), Arena: 1 + r.Intn(8), Edges: 1 + r.Intn(6), Retry: r.Intn(4), Force: r.Intn(12) == 0,
	}
	if r.Intn(3) == 0 {
		c.Reads, c.Writes, c.Outs, c.Arena, c.Edges = 64, 64, 64, 512, 512
	}
	return c
}

// driver tells entries on and on: in each round each worker, some often, some only once the round must end; so many aborts among them, of somebody, or of whoever is told to be about to end.
type driver struct {
	maker
	workers, slow, aborts int
}

func (d *driver) next(m *mach.Machine) api.Entry {
	if d.aborts > 0 {
		for w, h := range m.Hands() {
			if h.Age == m.Result().Count && h.Over != api.Going || d.Intn(40*d.workers) == 0 {
				d.aborts--
				return abort(w)
			}
		}
	}
	w := d.Intn(d.workers + d.Intn(20)/19)
	if w == d.slow && d.Intn(9) > 0 {
		w = (w + 1) % d.workers
	}
	return api.Entry{Worker: w}
}

// runs: a machine of a job.
func runs(t *testing.T, j api.Job, c api.Config) *mach.Machine {
	t.Helper()
	m, e := mach.New(j, c)
	if e != api.OK {
		t.Fatal(e)
	}
	return m
}

// enough: a script of so many rounds and aborts is done behind them, and shows what its tasks do one behind the other.
func enough(t *testing.T, m *mach.Machine, j api.Job, c api.Config, l []api.Entry) {
	t.Helper()
	rounds, aborts := Rounds(l, c.Workers)
	bound, e := Bound(j, c, aborts)
	if e != api.OK {
		t.Fatal(e)
	}
	if !m.Done() && rounds >= bound {
		t.Fatalf("it isn't done behind %d rounds, %d aborts: %+v, %+v", rounds, aborts, j, c)
	}
	if want, _ := fold.Run(j); m.Done() && !fold.Same(m.Result(), want) {
		t.Fatalf("%+v, not %+v", m.Result(), want)
	}
}

// P24.5, P25.3, P25.4: whatever is picked, and whoever is aborted, a run is done within the bound
func TestRunsWithinBound(t *testing.T) {
	r := maker{rand.New(rand.NewSource(245))}
	var all api.Stats
	for _, source := range tangled() {
		for range 200 {
			j, c := looped(t, r.Intn(9), 20+r.Intn(60), source), r.config()
			m := runs(t, j, c)
			d := &driver{maker: r, workers: c.Workers, slow: r.Intn(c.Workers + 2), aborts: []int{0, 0, 1, 6, 30}[r.Intn(5)]}
			var l []api.Entry
			for looked := 0; !m.Done(); looked++ {
				x := d.next(m)
				l = append(l, x)
				m.Do(x)
				if looked%64 == 0 || m.Done() {
					enough(t, m, j, c, l)
				}
			}
			s := m.Stats()
			all.Aborts, all.Stalls, all.Falls, all.Commits = all.Aborts+s.Aborts, all.Stalls+s.Stalls, all.Falls+s.Falls, all.Commits+s.Commits
		}
	}
	if min(all.Aborts, all.Stalls, all.Falls, all.Commits) < 300 {
		t.Errorf("too few of a kind: %+v", all)
	}
}

// P24.5, P25.5: a fair script of as many rounds as the bound says is long enough, and so is the text of one
func TestFairIsEnough(t *testing.T) {
	r := maker{rand.New(rand.NewSource(55))}
	for _, source := range tangled() {
		for range 8 {
			j, c := looped(t, 1+r.Intn(6), 30, source), r.config()
			bound, _ := Bound(j, c, 0)
			l := Fair(c.Workers, bound)
			if rounds, _ := Rounds(l, c.Workers); rounds != bound {
				t.Fatal(rounds, bound)
			}
			m := runs(t, j, c)
			for _, x := range l {
				m.Do(x)
			}
			enough(t, m, j, c, l)
			turn, e := Text(Fair(c.Workers, 1))
			same := entries(t, "("+turn+")*"+strconv.Itoa(bound))
			if e != api.OK || !slices.Equal(l, same) {
				t.Fatal(turn, e)
			}
		}
	}
}

// P25.4, P24.5: with a job without tasks a run is done behind no rounds at all
func TestNoTasks(t *testing.T) {
	j, c := looped(t, 0, 30, "emit i;"), aConfig()
	m := runs(t, j, c)
	enough(t, m, j, c, nil)
	if !m.Done() {
		t.Error("it isn't done")
	}
}

// leastFuel: with which no task is spent.
func leastFuel(t *testing.T, source string) int {
	t.Helper()
	for fuel := 1; ; fuel++ {
		if r, e := fold.Run(looped(t, 9, fuel, source)); e != api.OK || r.Fault.Over == api.Going {
			return fuel
		}
	}
}

// P24.7, P25.4: tasks that have nothing to do with one another are done within Quick, without aborts, stalls or fallbacks
func TestRunsWithinQuick(t *testing.T) {
	r := maker{rand.New(rand.NewSource(247))}
	for _, source := range []string{"m[i] = m[i] + 1;", "m[2 * i] = m[2 * i + 1]; emit i;", "emit m[23]; into 0 m[22];", "stop;"} {
		fuel := leastFuel(t, source)
		for range 200 {
			j, c := looped(t, r.Intn(10), fuel, source), r.config()
			c.Policy, c.Chunk, c.Force = api.Dynamic, 1, false
			c.Reads, c.Writes, c.Outs, c.Arena = 2, 1, 1, c.Window
			quick, e := Quick(j, c)
			if e != api.OK {
				t.Fatal(e)
			}
			m := runs(t, j, c)
			d := &driver{maker: r, workers: c.Workers, slow: r.Intn(c.Workers + 2)}
			l := Fair(c.Workers, quick*r.Intn(2))
			for _, x := range l {
				m.Do(x)
			}
			for rounds, _ := Rounds(l, c.Workers); rounds < quick; rounds, _ = Rounds(l, c.Workers) {
				x := d.next(m)
				l = append(l, x)
				m.Do(x)
			}
			s := m.Stats()
			if !m.Done() || s.Aborts+s.Stalls+s.Falls > 0 {
				t.Fatalf("behind %d rounds: %+v, %+v, %+v", quick, s, j, c)
			}
			if want, _ := fold.Run(j); !fold.Same(m.Result(), want) || want.Fault.Over != api.Going {
				t.Fatalf("%+v, not %+v", m.Result(), want)
			}
		}
	}
}
