package idset_test

import (
	"math"
	"math/rand/v2"
	"slices"
	"testing"

	"saturate/idset"
)

// checkQueue compares what a queue says of itself with the waiting numbers in increasing order.
func checkQueue(t *testing.T, q *idset.Queue, want []int) {
	t.Helper()
	if q.Len() != len(want) || !slices.Equal(q.Items(), want) {
		t.Fatalf("waiting are %d: %v, not %v", q.Len(), q.Items(), want)
	}
}

// TestQueue checks P3.4.
func TestQueue(t *testing.T) {
	q := idset.NewQueue()
	checkQueue(t, q, nil)
	if x, ok := q.Pop(); x != 0 || ok {
		t.Fatal("an empty list", x, ok)
	}
	for _, c := range []struct {
		x    int
		want bool
	}{{5, true}, {2, true}, {5, false}, {-1, true}, {2, false}, {math.MaxInt, true}, {math.MinInt, true}, {math.MinInt, false}, {0, true}} {
		if q.Push(c.x) != c.want {
			t.Fatal("Push", c.x)
		}
	}
	checkQueue(t, q, []int{math.MinInt, -1, 0, 2, 5, math.MaxInt})
	for _, want := range []int{math.MinInt, -1, 0, 2, 5, math.MaxInt} {
		if x, ok := q.Pop(); x != want || !ok {
			t.Fatal("Pop", x, ok, want)
		}
	}
	checkQueue(t, q, nil)
	if x, ok := q.Pop(); x != 0 || ok {
		t.Fatal("a list that is empty again", x, ok)
	}
	if !q.Push(5) || q.Push(5) || q.Len() != 1 {
		t.Fatal("a number that was taken may wait again")
	}
}

// TestQueueSequences checks P3.4 and P3.5 for long sequences of calls.
func TestQueueSequences(t *testing.T) {
	random := rand.New(rand.NewPCG(5, 8))
	for _, numbers := range []int{3, 20, 1000} {
		q := idset.NewQueue()
		var waiting []int
		for range 4000 {
			if random.IntN(5) < 3 {
				x := random.IntN(numbers) - numbers/2
				i, found := slices.BinarySearch(waiting, x)
				if q.Push(x) == found {
					t.Fatal("Push", x, waiting)
				}
				if !found {
					waiting = slices.Insert(waiting, i, x)
				}
			} else if x, ok := q.Pop(); ok != (len(waiting) > 0) || ok && x != waiting[0] {
				t.Fatal("Pop", x, ok, waiting)
			} else if ok {
				waiting = waiting[1:]
			}
			checkQueue(t, q, waiting)
		}
	}
}

// TestQueueItems checks that Items returns memory of its own, and that queues are independent.
func TestQueueItems(t *testing.T) {
	q, other := idset.NewQueue(), idset.NewQueue()
	for _, x := range []int{4, 3, 9} {
		q.Push(x)
	}
	items := q.Items()
	for i := range items {
		items[i] = -7
	}
	q.Push(6)
	checkQueue(t, q, []int{3, 4, 6, 9})
	checkQueue(t, other, nil)
	if !slices.Equal(items, []int{-7, -7, -7}) {
		t.Error("a later call changes the items", items)
	}
}

// TestNoQueue checks that queues that NewQueue has not made are empty and stay so.
func TestNoQueue(t *testing.T) {
	var none *idset.Queue
	for name, q := range map[string]*idset.Queue{"nil": none, "zero": {}} {
		for range 2 {
			x, ok := q.Pop()
			if q.Len() != 0 || len(q.Items()) != 0 || x != 0 || ok || q.Push(1) {
				t.Error(name)
			}
		}
	}
}

// TestCopiedQueue checks that methods return for a queue that is only a copy of one.
func TestCopiedQueue(t *testing.T) {
	q := idset.NewQueue()
	q.Push(2)
	q.Push(8)
	c := *q
	for range 4 {
		c.Pop()
		c.Push(1)
		if c.Len() != len(c.Items()) {
			t.Error(c.Len(), c.Items())
		}
	}
}
