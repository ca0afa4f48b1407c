package portal_test

import (
	"cmp"
	"math"
	"slices"
	"testing"

	"throng/api"
	"throng/portal"
	"throng/sector"
)

// all returns n free tiles.
func all(n int) []bool { return slices.Repeat([]bool{true}, n) }

// scatter returns tiles of which so many of four are free.
func scatter(w, h, of4 int) []bool {
	free := make([]bool, w*h)
	s := uint64(w + 131*h + of4)
	for i := range free {
		s = s*6364136223846793005 + 1442695040888963407
		free[i] = int(s>>62) < of4
	}
	return free
}

// slow takes pair by pair and joins each one with those that it touches.
func slow(w, h int, free []bool) []api.Portal {
	var l []api.Portal
	for _, d := range [][2]int{{1, 0}, {0, 1}} {
		done := make([]bool, w*h)
		pair := func(a int) bool {
			x, y := a%w+d[0], a/w+d[1]
			if x >= w || y >= h || !free[a] || !free[x+w*y] {
				return false
			}
			s, _ := sector.Of(w, h, a)
			r, _ := sector.Of(w, h, x+w*y)
			return s != r
		}
		next := d[1] + w*d[0]
		for a := range w * h {
			if done[a] || !pair(a) {
				continue
			}
			s, _ := sector.Of(w, h, a)
			group := []int{a}
			for b := a + next; b < w*h && pair(b); b += next {
				if r, _ := sector.Of(w, h, b); r != s {
					break
				}
				done[b] = true
				group = append(group, b)
			}
			m := group[(len(group)-1)/2]
			l = append(l, api.Portal{A: m, B: m + d[0] + w*d[1], Width: len(group)})
		}
	}
	slices.SortFunc(l, func(p, q api.Portal) int { return cmp.Or(p.A-q.A, p.B-q.B) })
	return l
}

// pairs counts the pairs of free tiles across a border of sectors.
func pairs(w, h int, free []bool) int {
	n := 0
	for a := range w * h {
		x, y := a%w, a/w
		if x%8 == 7 && x+1 < w && free[a] && free[a+1] {
			n++
		}
		if y%8 == 7 && y+1 < h && free[a] && free[a+w] {
			n++
		}
	}
	return n
}

// P11.1, P11.2
func TestFind(t *testing.T) {
	for _, s := range [][2]int{{1, 1}, {8, 8}, {9, 9}, {16, 16}, {17, 25}, {40, 7}, {7, 40}, {24, 24}, {128, 20}, {33, 128}} {
		w, h := s[0], s[1]
		for of4 := range 5 {
			free := scatter(w, h, of4)
			l, e := portal.Find(w, h, free)
			if e != api.OK || !slices.Equal(l, slow(w, h, free)) {
				t.Fatalf("Find of %d times %d, %d: %v, %d", w, h, of4, l, e)
			}
			n := 0
			for _, p := range l {
				n += p.Width
			}
			if n != pairs(w, h, free) {
				t.Errorf("%d pairs of %d are in portals", n, pairs(w, h, free))
			}
		}
	}
}

// P11.1
func TestExamples(t *testing.T) {
	if l, e := portal.Find(16, 8, all(128)); e != api.OK || !slices.Equal(l, []api.Portal{{A: 55, B: 56, Width: 8}}) {
		t.Errorf("16 times 8: %v, %d", l, e)
	}
	if l, _ := portal.Find(8, 16, all(128)); !slices.Equal(l, []api.Portal{{A: 59, B: 67, Width: 8}}) {
		t.Errorf("8 times 16: %v", l)
	}
	if l, _ := portal.Find(8, 8, all(64)); len(l) > 0 {
		t.Errorf("8 times 8: %v", l)
	}
	free := all(9 * 9)
	for _, i := range []int{7, 16, 34, 63} {
		free[i] = false
	}
	want := []api.Portal{{A: 25, B: 26, Width: 1}, {A: 52, B: 53, Width: 4}, {A: 67, B: 76, Width: 7}, {A: 71, B: 80, Width: 1}, {A: 79, B: 80, Width: 1}}
	if l, _ := portal.Find(9, 9, free); !slices.Equal(l, want) {
		t.Errorf("9 times 9: %v, want %v", l, want)
	}
}

// P11.1: a tile at a corner is in two portals; the one with the smaller B is first.
func TestCorner(t *testing.T) {
	free := make([]bool, 81)
	free[70], free[71], free[79] = true, true, true
	if l, _ := portal.Find(9, 9, free); !slices.Equal(l, []api.Portal{{A: 70, B: 71, Width: 1}, {A: 70, B: 79, Width: 1}}) {
		t.Errorf("corner: %v", l)
	}
}

// P11.1
func TestWrong(t *testing.T) {
	for _, s := range [][2]int{{0, 1}, {1, 0}, {129, 1}, {1, 129}, {-2, -3}, {math.MaxInt, math.MaxInt}, {1 << 32, 1 << 32}, {0, 0}, {3, 3}, {5, 1}} {
		if l, e := portal.Find(s[0], s[1], make([]bool, 6)); len(l) > 0 || e != api.ErrForm {
			t.Errorf("Find(%v) %v, %d", s, l, e)
		}
	}
	if l, e := portal.Find(1, 1, nil); len(l) > 0 || e != api.ErrForm {
		t.Errorf("Find without tiles: %v, %d", l, e)
	}
}
