package clear_test

import (
	"slices"
	"testing"

	"throng/api"
	"throng/clear"
	"throng/kind"
	"throng/sample"
)

// land returns a ground with some of every terrain, and buildings on it.
func land(w, h, seed int) (api.Ground, []api.Building) {
	d := sample.Dice(seed)
	g := sample.Ground(w, h, &d, 24)
	return g, sample.Buildings(g, 23, 5)
}

// open tells whether the tile in column x and row y exists and is open.
func open(g api.Ground, l []api.Building, class, x, y int) bool {
	if x < 0 || x >= g.W || y < 0 || y >= g.H {
		return false
	}
	cost, _ := kind.Cost(class, g.Tiles[x+g.W*y])
	return cost > 0 && !slices.ContainsFunc(l, func(b api.Building) bool {
		return x >= b.X && x < b.X+b.W && y >= b.Y && y < b.Y+b.H
	})
}

// room reckons the clearance by the words of the document.
func room(g api.Ground, l []api.Building, class, x, y int) int {
	for k := 0; ; k++ {
		for dy := -k; dy <= k; dy++ {
			for dx := -k; dx <= k; dx++ {
				if !open(g, l, class, x+dx, y+dy) {
					return k
				}
			}
		}
	}
}

// P9.1, P9.2
func TestOpenAndGrid(t *testing.T) {
	for seed, s := range [][2]int{{1, 1}, {3, 3}, {20, 20}, {1, 9}, {9, 1}, {2, 7}, {17, 12}, {30, 25}} {
		g, l := land(s[0], s[1], seed)
		for class := range 3 {
			is, e := clear.Open(g, l, class)
			grid, f := clear.Grid(g, l, class)
			if e != api.OK || f != api.OK || len(is) != len(g.Tiles) || len(grid) != len(g.Tiles) {
				t.Fatalf("%v: %d, %d", s, e, f)
			}
			for i := range is {
				x, y := i%g.W, i/g.W
				if is[i] != open(g, l, class, x, y) || grid[i] != room(g, l, class, x, y) {
					t.Fatalf("%v, class %d, tile %d: %v, %d", s, class, i, is[i], grid[i])
				}
				smooth(t, g, grid, x, y)
			}
		}
	}
}

// smooth asks whether the clearances of neighbours differ by at most 1.
func smooth(t *testing.T, g api.Ground, grid []int, x, y int) {
	t.Helper()
	for _, d := range [][2]int{{1, 0}, {0, 1}, {1, 1}, {-1, 1}} {
		if a, b := x+d[0], y+d[1]; a >= 0 && a < g.W && b < g.H {
			if by := grid[x+g.W*y] - grid[a+g.W*b]; by < -1 || by > 1 {
				t.Errorf("column %d, row %d differs by %d from %d, %d", x, y, by, a, b)
			}
		}
	}
}

// P9.1
func TestExample(t *testing.T) {
	g := api.Ground{W: 3, H: 3, Tiles: make([]byte, 9)}
	if grid, e := clear.Grid(g, nil, api.Foot); e != api.OK || !slices.Equal(grid, []int{1, 1, 1, 1, 2, 1, 1, 1, 1}) {
		t.Errorf("Grid %v, %d", grid, e)
	}
	l := []api.Building{{ID: 1, Owner: 1, W: 1, H: 1}}
	if grid, e := clear.Grid(g, l, api.Foot); e != api.OK || !slices.Equal(grid, []int{0, 1, 1, 1, 1, 1, 1, 1, 1}) {
		t.Errorf("Grid with a building %v, %d", grid, e)
	}
}

// P9.1
func TestWrong(t *testing.T) {
	g, l := land(9, 9, 1)
	twice := append(slices.Clone(l), l[0])
	for _, c := range []struct {
		g     api.Ground
		l     []api.Building
		class int
	}{{api.Ground{}, nil, 0}, {api.Ground{W: 1, H: 1, Tiles: []byte{6}}, nil, 0}, {g, twice, 0}, {g, l, -1}, {g, l, 3}, {g, nil, 1 << 40}} {
		if r, e := clear.Open(c.g, c.l, c.class); len(r) > 0 || e != api.ErrForm {
			t.Errorf("Open %v, %d", r, e)
		}
		if r, e := clear.Grid(c.g, c.l, c.class); len(r) > 0 || e != api.ErrForm {
			t.Errorf("Grid %v, %d", r, e)
		}
	}
}
