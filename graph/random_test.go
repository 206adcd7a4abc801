package graph

import (
	"math/rand"
	"slices"
	"testing"

	"outrider/api"
)

// table: a second way: of each reader and each writer, whether the one leans on the other.
type table struct {
	room, many int
	leans      [][]bool // by readers, then by writers
}

func newTable(room, ages int) *table {
	x := &table{room: room}
	for range ages {
		x.leans = append(x.leans, make([]bool, ages))
	}
	return x
}

func (x *table) add(reader, writer int) api.Errno {
	switch {
	case writer < 0 || reader <= writer:
		return api.ErrEdge
	case x.leans[reader][writer]:
		return api.OK
	case x.many == x.room:
		return api.ErrFull
	}
	x.leans[reader][writer] = true
	x.many++
	return api.OK
}

func (x *table) remove(age int) int {
	was := x.many
	for other := range x.leans {
		for _, is := range []*bool{&x.leans[age][other], &x.leans[other][age]} {
			if *is {
				*is = false
				x.many--
			}
		}
	}
	return was - x.many
}

func (x *table) edges() []Edge {
	var l []Edge
	for writer := range x.leans {
		for reader := range x.leans {
			if x.leans[reader][writer] {
				l = append(l, Edge{reader, writer})
			}
		}
	}
	return l
}

// fall: whoever leans on one who falls falls, gone over again and again till nobody more does.
func (x *table) fall(age int) []int {
	fallen := make([]bool, len(x.leans))
	fallen[age] = true
	for more := true; more; {
		more = false
		for _, e := range x.edges() {
			if fallen[e.Writer] && !fallen[e.Reader] {
				fallen[e.Reader], more = true, true
			}
		}
	}
	var l []int
	for who, is := range fallen {
		if is {
			l = append(l, who)
		}
	}
	return l
}

// P23.2 to P23.4: calls at random, held against a table
func TestRandom(t *testing.T) {
	r := rand.New(rand.NewSource(23))
	seen := map[api.Errno]int{}
	for n := range 300 {
		ages, room := n%12+2, r.Intn(20)+1
		g, x := made(t, room), newTable(room, ages)
		for range 40 {
			reader, writer := r.Intn(ages), r.Intn(ages)
			if r.Intn(10) == 0 {
				writer = -1 - r.Intn(2)
			}
			if r.Intn(12) == 0 {
				removes(t, g, reader, x.remove(reader))
			} else {
				e := x.add(reader, writer)
				adds(t, g, reader, writer, e)
				seen[e]++
			}
			is(t, g, x.edges()...)
			for age := range ages {
				falls(t, g, age, x.fall(age)...)
			}
		}
	}
	for _, e := range []api.Errno{api.OK, api.ErrEdge, api.ErrFull} {
		if seen[e] < 500 {
			t.Error("too few of", e, seen)
		}
	}
}

// P23.5: nobody who falls is older, whoever leans on one who falls falls, and nobody leans on them once they are removed
func TestRandomFall(t *testing.T) {
	r := rand.New(rand.NewSource(235))
	for range 300 {
		ages := r.Intn(60) + 2
		g := made(t, api.MaxEdges)
		for range r.Intn(3 * ages) {
			writer := r.Intn(ages - 1)
			adds(t, g, writer+1+r.Intn(ages-1-writer), writer, api.OK)
		}
		age := r.Intn(ages)
		fallen := g.Fall(age)
		if len(fallen) == 0 || fallen[0] != age {
			t.Fatal("who falls with", age, fallen)
		}
		for i := 1; i < len(fallen); i++ {
			if fallen[i] <= fallen[i-1] {
				t.Fatal("not rising", fallen)
			}
			if !slices.ContainsFunc(fallen[:i], func(writer int) bool { return g.Has(fallen[i], writer) }) {
				t.Fatal(fallen[i], "leans on nobody who falls", fallen, g.Edges())
			}
		}
		for _, x := range g.Edges() {
			if slices.Contains(fallen, x.Writer) && !slices.Contains(fallen, x.Reader) {
				t.Fatal("it leans on one who falls", x, fallen)
			}
		}
		for _, who := range fallen {
			g.Remove(who)
		}
		for _, x := range g.Edges() {
			if slices.Contains(fallen, x.Writer) || slices.Contains(fallen, x.Reader) {
				t.Fatal("an edge of one who fell", x, fallen)
			}
		}
		falls(t, g, age, age)
	}
}
