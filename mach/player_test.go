package mach

import (
	"reflect"
	"slices"
	"strconv"
	"strings"
	"testing"

	"outrider/api"
	"outrider/fold"
	"outrider/job"
	"outrider/plan"
)

// player drives a run and a second way of it, and looks behind each entry at all that is told, and that must hold at each time.
type player struct {
	*Machine
	t     *testing.T
	j     api.Job
	c     api.Config
	x     *second
	upto  []api.Result // behind so many tasks
	whole api.Result
	last  *told // once it is done
	read  int   // how many events were looked at
	dense int   // how many entries go by till all events are looked at anew
	many  int
}

// told is all that a run tells.
type told struct {
	done   bool
	result api.Result
	stats  api.Stats
	hands  []api.Hand
	used   [3]int
}

func tells(m *Machine) *told {
	x := &told{done: m.Done(), result: m.Result(), stats: m.Stats(), hands: m.Hands()}
	x.used[0], x.used[1], x.used[2] = m.Used()
	return x
}

func (x *told) same(y *told) bool {
	return x.done == y.done && fold.Same(x.result, y.result) && x.stats == y.stats && slices.Equal(x.hands, y.hands) && x.used == y.used
}

func start(t *testing.T, j api.Job, c api.Config) *player {
	t.Helper()
	was, config := job.Copy(j), c
	m, e := New(j, c)
	if m == nil || e != api.OK {
		t.Fatal("New:", e, j, c)
	}
	if !job.Same(was, j) || c != config {
		t.Fatal("New has changed what it was handed")
	}
	p := &player{Machine: m, t: t, j: j, c: c, dense: 1}
	n, _ := plan.Count(j.Shape)
	for many := range n + 1 {
		r, _ := fold.Upto(j, many)
		p.upto = append(p.upto, r)
	}
	p.whole, _ = fold.Run(j)
	first, _ := fold.Begin(j)
	p.x = newSecond(job.Copy(j), c, first)
	p.look(0)
	return p
}

func (p *player) do(e api.Entry) {
	p.t.Helper()
	was := p.Result().Count
	p.Machine.Do(e)
	p.x.do(e)
	p.look(was)
}

// look: P24.3, P24.4, P24.6
func (p *player) look(was int) {
	p.t.Helper()
	now := tells(p.Machine)
	if p.last != nil && !p.last.same(now) {
		p.t.Fatalf("it was done: %+v, then %+v", p.last, now)
	}
	p.many++
	if p.many%p.dense == 0 || len(p.events) != len(p.x.events) || now.done && p.last == nil {
		if l := p.Events(); !slices.Equal(l, p.x.events) {
			p.t.Fatalf("events:\n%s\nnot\n%s", said(l), said(p.x.events))
		}
	}
	if now.done {
		p.last = now
	}
	p.alike(now)
	p.serial(now, was)
	p.room(now)
}

// alike: it tells what the second way has.
func (p *player) alike(now *told) {
	p.t.Helper()
	x := p.x
	want := &told{x.over(), x.r, x.stats, x.hands(), [3]int{x.c.Arena - x.free(), x.free(), len(x.leans)}}
	if !now.same(want) {
		p.t.Fatalf("%+v, not %+v\nbehind\n%s", now, want, said(x.events))
	}
}

// serial: P24.4
func (p *player) serial(now *told, was int) {
	p.t.Helper()
	r := now.result
	if r.Count != was && r.Count != was+1 {
		p.t.Fatal("Count was", was, "and is", r.Count)
	}
	want := p.upto[r.Count]
	if r.Fault.Over != api.Going {
		want = p.whole
	}
	if !fold.Same(r, want) {
		p.t.Fatalf("%+v, not %+v", r, want)
	}
	if now.done != (r.Count == len(p.upto)-1 || r.Fault.Over != api.Going) {
		p.t.Fatal("Done:", now.done, "with", r)
	}
}

// room: P24.6
func (p *player) room(now *told) {
	p.t.Helper()
	live, free, edges := now.used[0], now.used[1], now.used[2]
	if live < 0 || free < 0 || live+free != p.c.Arena || edges < 0 || edges > p.c.Edges || len(now.hands) != p.c.Workers {
		p.t.Fatalf("%+v with %+v", now, p.c)
	}
	seen := map[int]int{}
	for _, h := range now.hands {
		if h.Age == -1 {
			if h != (api.Hand{Age: -1}) {
				p.t.Fatalf("no task: %+v", h)
			}
			continue
		}
		seen[h.Age]++
		if seen[h.Age] > 1 || h.Age < now.result.Count || h.Age >= now.result.Count+p.c.Window {
			p.t.Fatalf("ages: %+v with %+v", now, p.c)
		}
		if h.Mode == api.Ahead {
			live -= h.Writes
		}
		if h.Mode == api.Ahead && (h.Reads > p.c.Reads || h.Writes > p.c.Writes || h.Outs > p.c.Outs) {
			p.t.Fatalf("a log: %+v with %+v", h, p.c)
		}
	}
	if live != 0 || now.done && (len(seen) > 0 || edges > 0) {
		p.t.Fatalf("versions without a writer, or something is left: %+v", now)
	}
}

// entries: items as in a script: a worker, or ! and a worker, and * and how often.
func entries(script string) []api.Entry {
	var l []api.Entry
	for _, item := range strings.Fields(script) {
		item, times, is := strings.Cut(item, "*")
		many := 1
		if is {
			many, _ = strconv.Atoi(times)
		}
		name, abort := strings.CutPrefix(item, "!")
		w, _ := strconv.Atoi(name)
		l = append(l, slices.Repeat([]api.Entry{{Worker: w, Abort: abort}}, many)...)
	}
	return l
}

// play: these entries; and just these events come of them, said as said does.
func (p *player) play(script string, want ...string) {
	p.t.Helper()
	for _, e := range entries(script) {
		p.do(e)
	}
	l := p.Events()
	if text := strings.Join(want, "; "); said(l[p.read:]) != text {
		p.t.Fatalf("%s:\n%s\nnot\n%s", script, said(l[p.read:]), text)
	}
	p.read = len(l)
}

// said: events as a text.
func said(l []api.Event) string {
	var all []string
	for _, x := range l {
		words := []string{"", "begin", "read", "write", "emit", "into", "abort", "commit", "fault"}
		parts := [][]int{{}, {x.Worker, x.Age}, {x.Age, x.At, int(x.Value), x.From}, {x.Age, x.At, int(x.Value)}, {x.Age, int(x.Value)}, {x.Age, x.At, int(x.Value)}, {x.Age}, {x.Age}, {x.Age, x.At, int(x.Value)}}
		text := words[x.Kind]
		for _, n := range parts[x.Kind] {
			text += " " + strconv.Itoa(n)
		}
		all = append(all, text)
	}
	return strings.Join(all, "; ")
}

// stats: these, as they are told now.
func (p *player) stats(want api.Stats) {
	p.t.Helper()
	if s := p.Stats(); s != want {
		p.t.Errorf("%+v, not %+v", s, want)
	}
}

// hand: what a worker has.
func (p *player) hand(w int, want api.Hand) {
	p.t.Helper()
	if h := p.Hands()[w]; h != want {
		p.t.Errorf("the worker %d has %+v, not %+v", w, h, want)
	}
}

// used: so many versions and edges.
func (p *player) used(versions, edges int) {
	p.t.Helper()
	if live, free, many := p.Used(); live != versions || free != p.c.Arena-versions || many != edges {
		p.t.Errorf("Used: %d %d %d, not %d %d %d", live, free, many, versions, p.c.Arena-versions, edges)
	}
}

// rest: the workers are picked in turn till it is done.
func (p *player) rest() {
	p.t.Helper()
	for range 4000 {
		for w := range p.c.Workers {
			p.do(api.Entry{Worker: w})
		}
		if p.Done() {
			p.ended()
			return
		}
	}
	p.t.Fatal("it doesn't come to its end:", said(p.Events()))
}

// ended: whatever comes behind, nothing changes any more.
func (p *player) ended() {
	p.t.Helper()
	events := p.Events()
	p.read = len(events)
	for w := -1; w <= p.c.Workers; w++ {
		p.do(api.Entry{Worker: w})
		p.do(api.Entry{Worker: w, Abort: true})
		p.Pick(w)
		p.Abort(w)
	}
	if !p.last.same(tells(p.Machine)) || !slices.Equal(events, p.Events()) {
		p.t.Fatal("it was done, and went on")
	}
}

// roomy: a config with enough of all.
func roomy() api.Config {
	return api.Config{Workers: 4, Window: 8, Policy: api.Dynamic, Chunk: 1, Reads: 8, Writes: 8, Outs: 8, Arena: 32, Edges: 32, Retry: 2}
}

// staged: a job of so many tasks, each with a listing of its own, whose lines are told with ; between.
func staged(t *testing.T, codes ...string) api.Job {
	t.Helper()
	text := "words 4\nred sum 0\nred max -5\nfuel 40\npipe 1 " + strconv.Itoa(len(codes)) + "\n"
	for _, code := range codes {
		text += "code {\n" + strings.ReplaceAll(code, "; ", "\n") + "\n}\n"
	}
	return parsed(t, text)
}

// looped: a job of a loop from 0 below so many, of a source text.
func looped(t *testing.T, many int, source string) api.Job {
	t.Helper()
	return parsed(t, "words 4\nred sum 0\nred max -5\nfuel 100\nfor 0 "+strconv.Itoa(many)+" 1\ntask {\n"+source+"\n}\n")
}

func parsed(t *testing.T, text string) api.Job {
	t.Helper()
	j, line, e := job.Parse(text)
	if e != api.OK {
		t.Fatal(line, e, text)
	}
	return j
}

// fresh: do two lists share no memory? (What is behind their length counts, too.)
func fresh[T any](a, b []T) bool {
	if cap(a) == 0 || cap(b) == 0 {
		return true
	}
	return reflect.ValueOf(a).Pointer() != reflect.ValueOf(b).Pointer()
}
