package graph

import (
	"container/heap"
)

// ages is a heap: the least one is taken first.
type ages []int

// newAges: a heap of one age.
func newAges(age int) *ages {
	return &ages{age}
}

func (a *ages) put(age int) {
	heap.Push(a, age)
}

// take: the least one, which goes.
func (a *ages) take() int {
	return heap.Pop(a).(int)
}

// Len, Less, Swap, Push and Pop are what container/heap calls.

func (a *ages) Len() int {
	return len(*a)
}

func (a *ages) Less(i, j int) bool {
	return (*a)[i] < (*a)[j]
}

func (a *ages) Swap(i, j int) {
	(*a)[i], (*a)[j] = (*a)[j], (*a)[i]
}

func (a *ages) Push(age any) {
	*a = append(*a, age.(int))
}

func (a *ages) Pop() any {
	last := len(*a) - 1
	age := (*a)[last]
	*a = (*a)[:last]
	return age
}
