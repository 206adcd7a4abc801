package graph

import (
	"math"
	"slices"
	"testing"

	"outrider/api"
)

func made(t *testing.T, room int) *Graph {
	t.Helper()
	g, e := New(room)
	if g == nil || e != api.OK {
		t.Fatalf("New(%d): %v %d", room, g, e)
	}
	return g
}

// with: a graph of these edges.
func with(t *testing.T, room int, edges ...Edge) *Graph {
	t.Helper()
	g := made(t, room)
	for _, x := range edges {
		adds(t, g, x.Reader, x.Writer, api.OK)
	}
	return g
}

func adds(t *testing.T, g *Graph, reader, writer int, want api.Errno) {
	t.Helper()
	if e := g.Add(reader, writer); e != want {
		t.Errorf("Add(%d, %d): %d, not %d", reader, writer, e, want)
	}
}

func has(t *testing.T, g *Graph, reader, writer int, want bool) {
	t.Helper()
	if g.Has(reader, writer) != want {
		t.Errorf("Has(%d, %d) isn't %v", reader, writer, want)
	}
}

func removes(t *testing.T, g *Graph, age, want int) {
	t.Helper()
	if n := g.Remove(age); n != want {
		t.Errorf("Remove(%d): %d, not %d", age, n, want)
	}
}

func readers(t *testing.T, g *Graph, writer int, want ...int) {
	t.Helper()
	if l := g.Readers(writer); !slices.Equal(l, want) {
		t.Errorf("Readers(%d): %v, not %v", writer, l, want)
	}
}

func falls(t *testing.T, g *Graph, age int, want ...int) {
	t.Helper()
	if l := g.Fall(age); !slices.Equal(l, want) {
		t.Errorf("Fall(%d): %v, not %v", age, l, want)
	}
}

// is: just these edges are there, told in this order; asking changes nothing.
func is(t *testing.T, g *Graph, want ...Edge) {
	t.Helper()
	for range 2 {
		if l := g.Edges(); !slices.Equal(l, want) {
			t.Errorf("Edges: %v, not %v", l, want)
		}
		if g.Len() != len(want) {
			t.Errorf("Len: %d, not %d", g.Len(), len(want))
		}
		of := map[int][]int{}
		for _, x := range want {
			has(t, g, x.Reader, x.Writer, true)
			has(t, g, x.Writer, x.Reader, false)
			has(t, g, x.Reader, x.Reader, false)
			of[x.Writer] = append(of[x.Writer], x.Reader)
		}
		for writer, l := range of {
			readers(t, g, writer, l...)
		}
	}
}

// below0: ages that nobody has.
func below0() []int {
	return []int{-1, -2, -512, -1 << 32, -1<<32 + 1, math.MinInt, math.MinInt + 1}
}

// P23.2 to P23.4: the chapter's example
func TestExample(t *testing.T) {
	g := made(t, 8)
	adds(t, g, 3, 1, api.OK)
	adds(t, g, 5, 3, api.OK)
	adds(t, g, 4, 2, api.OK)
	falls(t, g, 1, 1, 3, 5)
	readers(t, g, 2, 4)
	adds(t, g, 1, 3, api.ErrEdge)
	removes(t, g, 3, 2)
	falls(t, g, 1, 1)
	is(t, g, Edge{Reader: 4, Writer: 2})
}

// P23.1: how much room may be, and one past each end
func TestNew(t *testing.T) {
	for _, room := range []int{0, 513, -1, 514, 1024, -512, 1 << 32, 1<<32 + 1, -1<<32 + 1, math.MinInt, math.MaxInt} {
		if g, e := New(room); g != nil || e != api.ErrSize {
			t.Errorf("New(%d): %v %d, not %d", room, g, e, api.ErrSize)
		}
	}
	for _, room := range []int{1, 2, 64, 511, 512} {
		is(t, made(t, room))
	}
}

// P23.2: so many edges, and no more; those that are there already need no room
func TestAddRoom(t *testing.T) {
	for _, room := range []int{1, 2, 3, 10, 511, 512} {
		g := made(t, room)
		var want []Edge
		for n := range room {
			x := Edge{Reader: n + 1, Writer: n}
			adds(t, g, x.Reader, x.Writer, api.OK)
			adds(t, g, x.Reader, x.Writer, api.OK)
			want = append(want, x)
			if g.Len() != n+1 {
				t.Fatal(g.Len(), n+1)
			}
		}
		for range 2 {
			adds(t, g, room+1, room, api.ErrFull)
			adds(t, g, room+1, 0, api.ErrFull)
			has(t, g, room+1, room, false)
			has(t, g, room+1, 0, false)
		}
		for _, x := range want {
			adds(t, g, x.Reader, x.Writer, api.OK)
		}
		is(t, g, want...)
	}
}

// P23.2: what may be no edge, whether there is room or not
func TestAddErrEdge(t *testing.T) {
	for _, full := range []bool{false, true} {
		g := made(t, 2)
		want := []Edge{{Reader: 9, Writer: 4}}
		if full {
			want = append(want, Edge{Reader: 20, Writer: 10})
		}
		for _, x := range want {
			adds(t, g, x.Reader, x.Writer, api.OK)
		}
		for _, writer := range below0() {
			for _, reader := range []int{math.MinInt, -1, 0, 1, 4, 9, math.MaxInt, writer + 1} {
				adds(t, g, reader, writer, api.ErrEdge)
				has(t, g, reader, writer, false)
			}
		}
		for _, age := range []int{0, 1, 4, 9, 512, 1 << 40, math.MaxInt - 1, math.MaxInt} {
			adds(t, g, age, age, api.ErrEdge)
			adds(t, g, age-1, age, api.ErrEdge)
			adds(t, g, 0, age, api.ErrEdge)
			adds(t, g, -age, age, api.ErrEdge)
			adds(t, g, math.MinInt, age, api.ErrEdge)
			has(t, g, age, age, false)
			has(t, g, age-1, age, false)
		}
		adds(t, g, 4, 9, api.ErrEdge)
		is(t, g, want...)
	}
}

// P23.2: the least and the greatest ages that there are
func TestAddFarAges(t *testing.T) {
	g := made(t, 4)
	adds(t, g, math.MaxInt, 0, api.OK)
	adds(t, g, math.MaxInt, math.MaxInt-1, api.OK)
	adds(t, g, math.MaxInt-1, 0, api.OK)
	adds(t, g, 1, 0, api.OK)
	adds(t, g, 2, 0, api.ErrFull)
	is(t, g, Edge{1, 0}, Edge{math.MaxInt - 1, 0}, Edge{math.MaxInt, 0}, Edge{math.MaxInt, math.MaxInt - 1})
	falls(t, g, math.MaxInt-1, math.MaxInt-1, math.MaxInt)
	falls(t, g, 0, 0, 1, math.MaxInt-1, math.MaxInt)
	falls(t, g, math.MaxInt, math.MaxInt)
	removes(t, g, math.MaxInt, 2)
	is(t, g, Edge{1, 0}, Edge{math.MaxInt - 1, 0})
}

// P23.2: Has of what isn't there, near to what is
func TestHas(t *testing.T) {
	g := with(t, 8, Edge{5, 2}, Edge{7, 2}, Edge{7, 4})
	there := g.Edges()
	ages := append(below0(), 0, 1, 2, 3, 4, 5, 6, 7, 8, 1<<32+2, math.MaxInt)
	for _, reader := range ages {
		for _, writer := range ages {
			has(t, g, reader, writer, slices.Contains(there, Edge{reader, writer}))
		}
	}
	is(t, g, there...)
}

// P23.2: Remove of an age that is reader, writer, both, neither
func TestRemove(t *testing.T) {
	edges := []Edge{{4, 1}, {6, 1}, {4, 2}, {6, 4}, {9, 4}, {9, 6}}
	for age, many := range map[int]int{1: 2, 2: 1, 4: 4, 6: 3, 9: 2, 0: 0, 3: 0, 5: 0, 7: 0, 10: 0, -1: 0, -4: 0, 1<<32 + 4: 0, math.MinInt: 0, math.MaxInt: 0} {
		g := with(t, 6, edges...)
		removes(t, g, age, many)
		var left []Edge
		for _, x := range edges {
			if x.Reader != age && x.Writer != age {
				left = append(left, x)
			}
		}
		is(t, g, left...)
		removes(t, g, age, 0)
		is(t, g, left...)
	}
}

// P23.2: room that was taken is free again, as often as it goes
func TestRoomAgain(t *testing.T) {
	g := made(t, 2)
	for n := range 600 { // more often than there is room in the greatest graph
		adds(t, g, n+2, n, api.OK)
		adds(t, g, n+3, n, api.OK)
		adds(t, g, n+4, n, api.ErrFull)
		removes(t, g, n+3, 1)
		adds(t, g, n+4, n, api.OK)
		adds(t, g, n+3, n, api.ErrFull)
		is(t, g, Edge{n + 2, n}, Edge{n + 4, n})
		removes(t, g, n, 2)
		is(t, g)
	}
	removes(t, g, 0, 0)
}

// P23.3: whatever order they come in, Edges and Readers tell them in theirs
func TestOrders(t *testing.T) {
	sorted := []Edge{{1, 0}, {2, 0}, {10, 0}, {9, 1}, {11, 1}, {3, 2}, {9, 2}, {100, 3}, {10, 9}}
	for turn := range len(sorted) {
		for _, by := range []int{1, 2, 4, 5, 7, 8} { // with 9 they have no divisor in common
			g := made(t, len(sorted))
			for n := range sorted {
				x := sorted[(n*by+turn)%len(sorted)]
				adds(t, g, x.Reader, x.Writer, api.OK)
			}
			is(t, g, sorted...)
		}
	}
	g := with(t, 512, sorted...)
	readers(t, g, 0, 1, 2, 10)
	readers(t, g, 1, 9, 11)
	readers(t, g, 2, 3, 9)
	readers(t, g, 9, 10)
	for _, none := range append(below0(), 4, 8, 10, 11, 100, 101, math.MaxInt, 1<<32) {
		readers(t, g, none)
	}
	readers(t, made(t, 1), 0)
}

// P23.3: 512 readers of one writer, and one reader of 512 writers
func TestGreatest(t *testing.T) {
	wide, deep := made(t, 512), made(t, 512)
	var readersOf, all []int
	for n := range 512 {
		other := n * 77 % 512 // each once: 77 and 512 have no divisor in common
		adds(t, wide, other+1, 0, api.OK)
		adds(t, deep, 512, other, api.OK)
		readersOf = append(readersOf, n+1)
	}
	adds(t, wide, 513, 0, api.ErrFull)
	adds(t, deep, 513, 512, api.ErrFull)
	readers(t, wide, 0, readersOf...)
	all = append([]int{0}, readersOf...)
	falls(t, wide, 0, all...)
	for n := range 512 {
		readers(t, deep, n, 512)
		falls(t, deep, n, n, 512)
		falls(t, wide, n+1, n+1)
	}
	removes(t, deep, 512, 512)
	removes(t, wide, 0, 512)
	is(t, wide)
	is(t, deep)
}

// P23.4: ages without edges, below 0 too, fall alone
func TestFallAlone(t *testing.T) {
	for _, g := range []*Graph{made(t, 1), with(t, 3, Edge{3, 1}, Edge{5, 3})} {
		for _, age := range append(below0(), 0, 2, 4, 5, 6, 1<<32+1, math.MaxInt) {
			falls(t, g, age, age)
		}
	}
}

// P23.4: chains, from each of their ages on; who falls is told, and not gone
func TestFallChain(t *testing.T) {
	g := made(t, 512)
	var all []int
	for n := 511; n >= 0; n-- {
		adds(t, g, 3*n+3, 3*n, api.OK)
	}
	for n := range 513 {
		all = append(all, 3*n)
	}
	for n := range 513 {
		falls(t, g, 3*n, all[n:]...)
	}
	falls(t, g, 1, 1)
	if g.Len() != 512 {
		t.Error("Fall turns the graph", g.Len())
	}
	removes(t, g, 300, 2)
	falls(t, g, 0, all[:100]...)
	falls(t, g, 300, 300)
	falls(t, g, 303, all[101:]...)
}

// P23.4: ages that are come to in more than one way, each once
func TestFallManyWays(t *testing.T) {
	g := with(t, 16, Edge{2, 1}, Edge{3, 1}, Edge{4, 1}, Edge{4, 2}, Edge{4, 3}, Edge{9, 4}, Edge{9, 2}, Edge{7, 6}, Edge{9, 7}, Edge{5, 3})
	falls(t, g, 1, 1, 2, 3, 4, 5, 9)
	falls(t, g, 2, 2, 4, 9)
	falls(t, g, 3, 3, 4, 5, 9)
	falls(t, g, 6, 6, 7, 9)
	falls(t, g, 9, 9)

	ladder := made(t, 512) // as many ways as 2 to the 128th
	var all []int
	for n := range 128 {
		for _, x := range []Edge{{2*n + 2, 2 * n}, {2*n + 3, 2 * n}, {2*n + 2, 2*n + 1}, {2*n + 3, 2*n + 1}} {
			adds(t, ladder, x.Reader, x.Writer, api.OK)
		}
	}
	for n := range 258 {
		all = append(all, n)
	}
	falls(t, ladder, 0, append([]int{0}, all[2:]...)...)
	falls(t, ladder, 101, append([]int{101}, all[102:]...)...)

	thick := made(t, 496) // each of 32 leans on all that are older
	for reader := range 32 {
		for writer := range reader {
			adds(t, thick, reader, writer, api.OK)
		}
	}
	for n := range 32 {
		falls(t, thick, n, all[n:32]...)
	}
}

// P23.5: behind Remove of all who fall nobody leans on any of them
func TestFallRemoved(t *testing.T) {
	g := with(t, 16, Edge{2, 1}, Edge{3, 1}, Edge{4, 2}, Edge{4, 3}, Edge{6, 4}, Edge{6, 5}, Edge{5, 0}, Edge{8, 7})
	fallen := g.Fall(2)
	if !slices.Equal(fallen, []int{2, 4, 6}) {
		t.Fatal(fallen)
	}
	for _, age := range fallen {
		g.Remove(age)
	}
	for _, age := range fallen {
		readers(t, g, age)
	}
	is(t, g, Edge{5, 0}, Edge{3, 1}, Edge{8, 7})
}

// Rule 5: what is told is new, and later calls don't turn it
func TestApart(t *testing.T) {
	edges := []Edge{{3, 1}, {4, 1}, {6, 4}, {9, 6}}
	g := with(t, 8, edges...)
	was, one, fallen := g.Edges(), g.Readers(1), g.Fall(1)
	spoil(g.Edges(), Edge{99, 98})
	spoil(g.Readers(1), 99)
	spoil(g.Fall(1), 99)
	is(t, g, edges...)
	adds(t, g, 2, 1, api.OK)
	adds(t, g, 7, 3, api.OK)
	is(t, g, Edge{2, 1}, Edge{3, 1}, Edge{4, 1}, Edge{7, 3}, Edge{6, 4}, Edge{9, 6})
	removes(t, g, 3, 2)
	removes(t, g, 6, 2)
	adds(t, g, 1, 0, api.OK)
	if !slices.Equal(was, edges) || !slices.Equal(one, []int{3, 4}) || !slices.Equal(fallen, []int{1, 3, 4, 6, 9}) {
		t.Error("later calls turn what was told", was, one, fallen)
	}
	is(t, g, Edge{1, 0}, Edge{2, 1}, Edge{4, 1})
}

// spoil: writes over all that a list that was answered lets be reached.
func spoil[T any](l []T, with T) {
	for i := range l[:cap(l)] {
		l[:cap(l)][i] = with
	}
}

// P2: two graphs go their own ways
func TestTwoGraphs(t *testing.T) {
	a, b := made(t, 1), made(t, 1)
	adds(t, a, 2, 1, api.OK)
	is(t, b)
	adds(t, b, 3, 1, api.OK)
	removes(t, a, 1, 1)
	is(t, a)
	is(t, b, Edge{3, 1})
}
