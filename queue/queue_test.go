package queue_test

import (
	"cmp"
	"math"
	"slices"
	"testing"

	"throng/queue"
)

// popped pops one entry and asks for it.
func popped(t *testing.T, q *queue.Queue, key, val int, ok bool) {
	t.Helper()
	if k, v, o := q.Pop(); k != key || v != val || o != ok {
		t.Fatalf("Pop %d, %d, %v, want %d, %d, %v", k, v, o, key, val, ok)
	}
}

// P12.1
func TestExample(t *testing.T) {
	q := queue.New()
	popped(t, q, 0, 0, false)
	q.Push(2, 1)
	q.Push(1, 9)
	q.Push(1, 3)
	popped(t, q, 1, 3, true)
	popped(t, q, 1, 9, true)
	popped(t, q, 2, 1, true)
	popped(t, q, 0, 0, false)
	if q.Len() != 0 {
		t.Errorf("Len %d", q.Len())
	}
}

// P12.1
func TestEdges(t *testing.T) {
	q := queue.New()
	for _, key := range []int{math.MaxInt, 0, math.MinInt} {
		for _, val := range []int{0, math.MinInt, math.MaxInt} {
			q.Push(key, val)
			q.Push(key, val)
		}
	}
	for _, key := range []int{math.MinInt, 0, math.MaxInt} {
		for _, val := range []int{math.MinInt, 0, math.MaxInt} {
			popped(t, q, key, val, true)
			popped(t, q, key, val, true)
		}
	}
	popped(t, q, 0, 0, false)
}

// pair is a key and its value.
type pair struct{ key, val int }

// P12.1, P12.2: against a sorted list.
func TestMixed(t *testing.T) {
	q := queue.New()
	var l []pair
	seed := uint64(17)
	for range 20000 {
		seed = seed*6364136223846793005 + 1442695040888963407
		if seed>>62 > 0 && len(l) < 500 {
			x := pair{int(seed>>40) % 30, int(seed>>20) % 10}
			q.Push(x.key, x.val)
			i, _ := slices.BinarySearchFunc(l, x, func(a, b pair) int { return cmp.Or(a.key-b.key, a.val-b.val) })
			l = slices.Insert(l, i, x)
		} else if len(l) > 0 {
			popped(t, q, l[0].key, l[0].val, true)
			l = l[1:]
		} else {
			popped(t, q, 0, 0, false)
		}
		if q.Len() != len(l) {
			t.Fatalf("Len %d, want %d", q.Len(), len(l))
		}
	}
	for _, x := range l {
		popped(t, q, x.key, x.val, true)
	}
	popped(t, q, 0, 0, false)
}

// R2: two queues share nothing.
func TestTwo(t *testing.T) {
	a, b := queue.New(), queue.New()
	a.Push(1, 1)
	popped(t, b, 0, 0, false)
	b.Push(2, 2)
	popped(t, a, 1, 1, true)
	popped(t, b, 2, 2, true)
}
