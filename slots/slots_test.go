package slots_test

import (
	"cmp"
	"math"
	"slices"
	"testing"

	"throng/api"
	"throng/disc"
	"throng/field"
	"throng/ground"
	"throng/sample"
	"throng/slots"
)

// land returns a ground with some of every terrain, and a building on it.
func land(w, h, seed int) (api.Ground, []api.Building) {
	d := sample.Dice(seed)
	g := sample.Ground(w, h, &d, 16)
	g.Tiles[w*h/2] = api.Road
	return g, []api.Building{{ID: 1, Owner: 1, X: w * h / 2 % w, Y: w * h / 2 / w, W: 1, H: 1}}
}

// distance tells how far t is from goal; -1 if it is not in step with it.
func distance(g api.Ground, goal, t, apart int) int {
	x, y := t%g.W-goal%g.W, t/g.W-goal/g.W
	if x%apart != 0 || y%apart != 0 {
		return -1
	}
	return max(x, -x, y, -y)
}

// slow sorts all tiles.
func slow(g api.Ground, l []api.Building, class, size, goal, n int) []int {
	good, _ := field.Good(g, l, class, size)
	var found []int
	for t := range good {
		if good[t] && distance(g, goal, t, 2*size+1) >= 0 {
			found = append(found, t)
		}
	}
	slices.SortFunc(found, func(a, b int) int {
		return cmp.Or(distance(g, goal, a, 1)-distance(g, goal, b, 1), a-b)
	})
	return found[:min(n, len(found))]
}

// P20.1, P20.2
func TestAgainstSlow(t *testing.T) {
	for seed, s := range [][2]int{{9, 9}, {1, 1}, {20, 13}, {1, 30}, {30, 1}, {25, 25}, {128, 3}} {
		g, l := land(s[0], s[1], seed)
		for class := range 3 {
			for size := range 4 {
				for goal := 0; goal < len(g.Tiles); goal += 1 + len(g.Tiles)/9 {
					for _, n := range []int{0, 1, 5, 63, 64} {
						found, e := slots.Find(g, l, class, size, goal, n)
						if want := slow(g, l, class, size, goal, n); e != api.OK || !slices.Equal(found, want) {
							t.Fatalf("%v: Find(%d, %d, %d, %d) %v, %d, want %v", s, class, size, goal, n, found, e, want)
						}
						sideBySide(t, g, size, found)
					}
				}
			}
		}
	}
}

// sideBySide asks whether discs at the centres of these tiles are apart.
func sideBySide(t *testing.T, g api.Ground, size int, found []int) {
	t.Helper()
	r := int64(size)*api.One + api.One/2
	for i, a := range found {
		p, _ := ground.Center(g, a)
		for _, b := range found[:i] {
			if q, _ := ground.Center(g, b); a == b || !disc.Apart(p, r, q, r) {
				t.Fatalf("tiles %d and %d", a, b)
			}
		}
	}
}

// P20.1
func TestExample(t *testing.T) {
	g := api.Ground{W: 5, H: 5, Tiles: make([]byte, 25)}
	if l, e := slots.Find(g, nil, api.Foot, 0, 12, 9); e != api.OK || !slices.Equal(l, []int{12, 6, 7, 8, 11, 13, 16, 17, 18}) {
		t.Errorf("Find %v, %d", l, e)
	}
	if l, e := slots.Find(g, nil, api.Foot, 0, 0, 5); e != api.OK || !slices.Equal(l, []int{0, 1, 5, 6, 2}) {
		t.Errorf("Find at a corner %v, %d", l, e)
	}
	if l, e := slots.Find(g, nil, api.Foot, 1, 6, 64); e != api.OK || !slices.Equal(l, []int{6}) {
		t.Errorf("Find for a giant %v, %d", l, e)
	}
}

// P20.1
func TestWrong(t *testing.T) {
	g, l := land(9, 7, 3)
	numbers := []int{-1, 65, 99, math.MinInt, math.MaxInt}
	for _, n := range append(numbers, 0, 64) {
		for _, goal := range append(numbers, 0) {
			refused(t, api.Ground{}, nil, 0, 0, goal, n, api.ErrForm)
			refused(t, g, append(l, l[0]), 0, 0, goal, n, api.ErrForm)
			refused(t, g, l, -1, 0, goal, n, api.ErrForm)
			refused(t, g, l, 3, 0, goal, n, api.ErrForm)
			refused(t, g, l, 0, -1, goal, n, api.ErrForm)
			refused(t, g, l, 0, 4, goal, n, api.ErrForm)
			if goal != 0 {
				refused(t, g, l, 0, 0, goal, n, api.ErrNone)
			}
		}
	}
	refused(t, g, l, 0, 0, 63, 0, api.ErrNone)
	for _, n := range numbers {
		refused(t, g, l, 0, 0, 62, n, api.ErrLimit)
	}
}

func refused(t *testing.T, g api.Ground, l []api.Building, class, size, goal, n int, want api.Errno) {
	t.Helper()
	if r, e := slots.Find(g, l, class, size, goal, n); len(r) > 0 || e != want {
		t.Errorf("Find(%d, %d, %d, %d) %v, %d, want %d", class, size, goal, n, r, e, want)
	}
}
