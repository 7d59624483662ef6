package idset

import (
	"container/heap"
	"slices"
)

// Queue is a work list from which the least number is taken first.
type Queue struct {
	self    *Queue // itself if NewQueue made it: neither a zero Queue nor a copy is a work list
	waiting map[int]bool
	order   numbers
}

// numbers is ordered by package heap: the first one is the least.
type numbers []int

func (n numbers) Len() int           { return len(n) }
func (n numbers) Less(i, j int) bool { return n[i] < n[j] }
func (n numbers) Swap(i, j int)      { n[i], n[j] = n[j], n[i] }

// Push is called by package heap, with numbers only.
func (n *numbers) Push(x any) {
	*n = append(*n, x.(int))
}

// Pop is called by package heap, after it has moved the least number to the end.
func (n *numbers) Pop() any {
	last := len(*n) - 1
	x := (*n)[last]
	*n = (*n)[:last]
	return x
}

// NewQueue is specified in P3.4.
func NewQueue() *Queue {
	q := &Queue{waiting: map[int]bool{}}
	q.self = q
	return q
}

func (q *Queue) made() bool {
	return q != nil && q.self == q
}

// Push is specified in P3.4.
func (q *Queue) Push(x int) bool {
	if !q.made() || q.waiting[x] {
		return false
	}
	q.waiting[x] = true
	heap.Push(&q.order, x)
	return true
}

// Pop is specified in P3.4.
func (q *Queue) Pop() (int, bool) {
	if q.Len() == 0 {
		return 0, false
	}
	x := heap.Pop(&q.order).(int)
	delete(q.waiting, x)
	return x, true
}

// Len is specified in P3.4.
func (q *Queue) Len() int {
	if !q.made() {
		return 0
	}
	return len(q.order)
}

// Items is specified in P3.4.
func (q *Queue) Items() []int {
	if !q.made() {
		return nil
	}
	items := slices.Clone(q.order)
	slices.Sort(items)
	return items
}
