package cells_test

import (
	"maps"
	"math"
	"slices"
	"testing"

	"throng/api"
	"throng/cells"
	"throng/vec"
)

// slow asks every id.
func slow(at map[int]api.Vec, p api.Vec, r int64) []int {
	var l []int
	for _, id := range slices.Sorted(maps.Keys(at)) {
		if vec.Within(p, at[id], r) {
			l = append(l, id)
		}
	}
	return l
}

// P16.1, P16.2, P16.3: near and far, against a map.
func TestAgainstMap(t *testing.T) {
	for _, spread := range []uint{50, 44, 40, 20, 1, 0} {
		c := cells.New()
		at := map[int]api.Vec{}
		seed := uint64(spread)
		next := func() int64 {
			seed = seed*6364136223846793005 + 1442695040888963407
			return int64(seed) >> spread
		}
		for n := range 2500 {
			id, p := int(next()>>3)%40, api.Vec{X: next(), Y: next()}
			if next()%4 == 0 {
				_, want := at[id]
				if c.Remove(id) != want {
					t.Fatalf("Remove(%d) %v", id, !want)
				}
				delete(at, id)
			} else {
				c.Put(id, p)
				at[id] = p
			}
			q, have := c.At(id)
			if w, want := at[id]; q != w || have != want || c.Count() != len(at) {
				t.Fatalf("At(%d) %v, %v; Count %d", id, q, have, c.Count())
			}
			for _, r := range []int64{0, -1, math.MinInt64, 1, api.One, next(), next() >> 3, api.Most} {
				if l := c.Near(p, r); n%5 == 0 && !slices.Equal(l, slow(at, p, r)) {
					t.Fatalf("Near(%v, %d) %v, want %v", p, r, l, slow(at, p, r))
				}
			}
		}
	}
}

// P16.2: at the edge of what numbers hold.
func TestEdges(t *testing.T) {
	c := cells.New()
	at := map[int]api.Vec{}
	numbers := []int64{math.MinInt64, -api.Most, -1, 0, 1, api.Most - 1, api.Most, 1 << 17, 1<<17 - 1}
	for i, x := range numbers {
		for j, y := range numbers {
			id := (i*100+j)*-7919 + math.MaxInt/2
			c.Put(id, api.Vec{X: x, Y: y})
			at[id] = api.Vec{X: x, Y: y}
			if p, _ := c.At(id); p != at[id] {
				t.Errorf("At %v, want %v", p, at[id])
			}
		}
	}
	for _, p := range at {
		for _, r := range []int64{1, 2, 3, 1 << 17, api.Most, api.Most - 1, math.MinInt64} {
			if l := c.Near(p, r); !slices.Equal(l, slow(at, p, r)) {
				t.Fatalf("Near(%v, %d) %v, want %v", p, r, l, slow(at, p, r))
			}
		}
	}
}

// P16.2: the border itself is not near.
func TestBorder(t *testing.T) {
	c := cells.New()
	c.Put(1, api.Vec{})
	c.Put(2, api.Vec{X: 3, Y: 4})
	if l := c.Near(api.Vec{}, 5); !slices.Equal(l, []int{1}) {
		t.Errorf("Near 5: %v", l)
	}
	if l := c.Near(api.Vec{}, 6); !slices.Equal(l, []int{1, 2}) {
		t.Errorf("Near 6: %v", l)
	}
	if l := c.Near(api.Vec{}, 1); !slices.Equal(l, []int{1}) {
		t.Errorf("Near 1: %v", l)
	}
}

// P16.1
func TestPutReplaces(t *testing.T) {
	c := cells.New()
	c.Put(-5, api.Vec{X: 1})
	c.Put(-5, api.Vec{X: 90 * api.One})
	if l := c.Near(api.Vec{}, api.One); len(l) > 0 || c.Count() != 1 {
		t.Errorf("Near %v, Count %d", l, c.Count())
	}
	if !c.Remove(-5) || c.Remove(-5) || c.Count() != 0 {
		t.Error("Remove")
	}
	if p, ok := c.At(-5); p != (api.Vec{}) || ok {
		t.Errorf("At %v, %v", p, ok)
	}
}

// R2
func TestNearIsNew(t *testing.T) {
	c := cells.New()
	for id := range 5 {
		c.Put(id, api.Vec{})
	}
	l := c.Near(api.Vec{}, 1)
	clear(l[:cap(l)])
	if l := c.Near(api.Vec{}, 1); !slices.Equal(l, []int{0, 1, 2, 3, 4}) {
		t.Errorf("Near %v", l)
	}
}

// R1: an index that New did not make.
func TestZero(t *testing.T) {
	var c cells.Cells
	if _, ok := c.At(1); ok || c.Remove(1) || c.Count() != 0 || len(c.Near(api.Vec{}, 5)) > 0 {
		t.Error("it holds something")
	}
	c.Put(1, api.Vec{})
	if l := c.Near(api.Vec{}, 5); !slices.Equal(l, []int{1}) {
		t.Errorf("Near %v", l)
	}
}
