package field_test

import (
	"math"
	"slices"
	"testing"

	"throng/api"
	"throng/clear"
	"throng/field"
	"throng/ground"
	"throng/kind"
	"throng/sample"
)

// land returns a ground with some of every terrain, and buildings on it.
func land(w, h, seed int) (api.Ground, []api.Building) {
	d := sample.Dice(seed)
	g := sample.Ground(w, h, &d, 16)
	return g, sample.Buildings(g, 29, 5)
}

// stepTo tells what the step from t to its neighbour i costs, by the words of the document; -1: there is none.
func stepTo(g api.Ground, good []bool, class, t, i int) (to, cost int) {
	near, _ := ground.Near(g, t)
	to = near[i]
	if to < 0 || !good[t] || !good[to] {
		return -1, 0
	}
	a, _ := kind.Cost(class, g.Tiles[t])
	b, _ := kind.Cost(class, g.Tiles[to])
	if i < 4 {
		return to, 5 * (a + b)
	}
	if !good[to%g.W+g.W*(t/g.W)] || !good[t%g.W+g.W*(to/g.W)] {
		return -1, 0
	}
	return to, 7 * (a + b)
}

// slow reckons the costs by going through all steps until nothing changes.
func slow(g api.Ground, good []bool, class, goal int) []int {
	costs := slices.Repeat([]int{-1}, len(good))
	if good[goal] {
		costs[goal] = 0
	}
	for changed := true; changed; {
		changed = false
		for t := range costs {
			for i := range 8 {
				to, cost := stepTo(g, good, class, t, i)
				if to >= 0 && costs[to] >= 0 && (costs[t] < 0 || costs[to]+cost < costs[t]) {
					costs[t], changed = costs[to]+cost, true
				}
			}
		}
	}
	return costs
}

// slowDirs reckons the directions by the words of the document.
func slowDirs(g api.Ground, good []bool, class int, costs []int) []int {
	dirs := slices.Repeat([]int{-1}, len(good))
	for t := range dirs {
		for i := 7; i >= 0; i-- {
			if to, cost := stepTo(g, good, class, t, i); to >= 0 && costs[t] > 0 && costs[to]+cost == costs[t] {
				dirs[t] = i
			}
		}
	}
	return dirs
}

// P13.1, P13.2
func TestAgainstSlow(t *testing.T) {
	for seed, s := range [][2]int{{1, 1}, {2, 1}, {5, 5}, {1, 12}, {12, 9}, {17, 11}, {20, 20}} {
		g, l := land(s[0], s[1], seed)
		for class := range 3 {
			for size := range 4 {
				good, e := field.Good(g, l, class, size)
				grid, _ := clear.Grid(g, l, class)
				for i := range grid {
					if e != api.OK || good[i] != (grid[i] > size) {
						t.Fatalf("%v: tile %d is good: %v, %d", s, i, good[i], e)
					}
				}
				for goal := 0; goal < len(good); goal += 1 + len(good)/7 {
					costs, e := field.Make(g, l, class, size, goal)
					if e != api.OK || !slices.Equal(costs, slow(g, good, class, goal)) {
						t.Fatalf("%v: Make(%d, %d, %d) %v, %d", s, class, size, goal, costs, e)
					}
					dirs, e := field.Dirs(g, l, class, size, goal)
					if e != api.OK || !slices.Equal(dirs, slowDirs(g, good, class, costs)) {
						t.Fatalf("%v: Dirs(%d, %d, %d) %v, %d", s, class, size, goal, dirs, e)
					}
					follow(t, g, good, class, goal, costs, dirs)
				}
			}
		}
	}
}

// follow asks whether the directions lead to goal at the cost that was told (P13.3).
func follow(t *testing.T, g api.Ground, good []bool, class, goal int, costs, dirs []int) {
	t.Helper()
	for from, want := range costs {
		paid, at := 0, from
		for n := 0; dirs[at] >= 0 && n <= len(dirs); n++ {
			to, cost := stepTo(g, good, class, at, dirs[at])
			paid, at = paid+cost, to
		}
		if want >= 0 && (at != goal || paid != want) || want < 0 && dirs[from] != -1 {
			t.Fatalf("from %d to %d: ends at %d and costs %d, want %d", from, goal, at, paid, want)
		}
	}
}

// P13.1, P13.2
func TestSmall(t *testing.T) {
	two := api.Ground{W: 2, H: 1, Tiles: make([]byte, 2)}
	if l, e := field.Make(two, nil, api.Foot, 0, 1); !slices.Equal(l, []int{20, 0}) || e != api.OK {
		t.Errorf("Make %v, %d", l, e)
	}
	if l, e := field.Dirs(two, nil, api.Foot, 0, 1); !slices.Equal(l, []int{1, -1}) || e != api.OK {
		t.Errorf("Dirs %v, %d", l, e)
	}
	// A rock at the side forbids the diagonal step.
	g := api.Ground{W: 2, H: 2, Tiles: []byte{api.Plain, api.Rock, api.Plain, api.Plain}}
	if l, _ := field.Make(g, nil, api.Foot, 0, 0); !slices.Equal(l, []int{0, -1, 20, 40}) {
		t.Errorf("Make at a corner %v", l)
	}
	if l, _ := field.Make(g, nil, api.Foot, 0, 1); !slices.Equal(l, []int{-1, -1, -1, -1}) {
		t.Errorf("Make to a rock %v", l)
	}
	if l, _ := field.Dirs(g, nil, api.Foot, 0, 1); !slices.Equal(l, []int{-1, -1, -1, -1}) {
		t.Errorf("Dirs to a rock %v", l)
	}
	// Straight ways come before diagonal ones, and above before right.
	open := api.Ground{W: 3, H: 3, Tiles: make([]byte, 9)}
	if l, _ := field.Dirs(open, nil, api.Foot, 0, 4); !slices.Equal(l, []int{5, 2, 6, 1, -1, 3, 4, 0, 7}) {
		t.Errorf("Dirs to the middle %v", l)
	}
}

// P13.1, P13.2
func TestWrong(t *testing.T) {
	g, l := land(9, 9, 3)
	twice := append(slices.Clone(l), l[0])
	type call struct {
		g           api.Ground
		l           []api.Building
		class, size int
		goal        int
	}
	for _, c := range []call{{api.Ground{}, nil, 0, 0, -1}, {g, twice, 0, 0, 0}, {g, l, -1, 0, 0}, {g, l, 3, 0, 99}, {g, l, 0, -1, 99}, {g, l, 0, 4, 0}, {g, l, 0, math.MaxInt, 0}} {
		if r, e := field.Good(c.g, c.l, c.class, c.size); len(r) > 0 || e != api.ErrForm {
			t.Errorf("Good(%v) %d", c, e)
		}
		if r, e := field.Make(c.g, c.l, c.class, c.size, c.goal); len(r) > 0 || e != api.ErrForm {
			t.Errorf("Make(%v) %d", c, e)
		}
		if r, e := field.Dirs(c.g, c.l, c.class, c.size, c.goal); len(r) > 0 || e != api.ErrForm {
			t.Errorf("Dirs(%v) %d", c, e)
		}
	}
	for _, goal := range []int{-1, 81, math.MinInt, math.MaxInt} {
		if r, e := field.Make(g, l, 0, 0, goal); len(r) > 0 || e != api.ErrNone {
			t.Errorf("Make to %d: %d", goal, e)
		}
		if r, e := field.Dirs(g, l, 0, 0, goal); len(r) > 0 || e != api.ErrNone {
			t.Errorf("Dirs to %d: %d", goal, e)
		}
	}
}
