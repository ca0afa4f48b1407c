package sector_test

import (
	"math"
	"slices"
	"testing"

	"throng/api"
	"throng/sector"
)

func sizesOf() [][2]int {
	return [][2]int{{1, 1}, {8, 8}, {9, 8}, {8, 9}, {16, 8}, {17, 23}, {128, 128}, {3, 40}, {1, 128}, {128, 1}}
}

// scatter returns free tiles, three of four or so.
func scatter(w, h int) []bool {
	free := make([]bool, w*h)
	s := uint64(w + 131*h)
	for i := range free {
		s = s*6364136223846793005 + 1442695040888963407
		free[i] = s>>62 > 0
	}
	return free
}

// slow reckons the parts by giving each tile the least number around it, again and again.
func slow(w, h int, free []bool) []int {
	parts := make([]int, w*h)
	for t := range parts {
		parts[t] = -1
		if free[t] {
			parts[t] = t
		}
	}
	for changed := true; changed; {
		changed = false
		for t := range parts {
			for _, d := range [][2]int{{0, -1}, {1, 0}, {0, 1}, {-1, 0}} {
				x, y := t%w+d[0], t/w+d[1]
				if x < 0 || x >= w || y < 0 || y >= h || x/8 != t%w/8 || y/8 != t/w/8 {
					continue
				}
				if u := x + w*y; free[t] && free[u] && parts[u] < parts[t] {
					parts[t], changed = parts[u], true
				}
			}
		}
	}
	return parts
}

// P10.1
func TestCountAndOf(t *testing.T) {
	for _, s := range sizesOf() {
		w, h := s[0], s[1]
		n, e := sector.Count(w, h)
		if want := (w + 7) / 8 * ((h + 7) / 8); n != want || e != api.OK {
			t.Errorf("Count(%d, %d) %d, %d", w, h, n, e)
		}
		for i := range w * h {
			k, e := sector.Of(w, h, i)
			if want := i%w/8 + (w+7)/8*(i/w/8); k != want || k >= n || e != api.OK {
				t.Fatalf("Of(%d, %d, %d) %d, %d", w, h, i, k, e)
			}
		}
		for _, i := range []int{-1, w * h, math.MinInt, math.MaxInt} {
			if k, e := sector.Of(w, h, i); k != 0 || e != api.ErrNone {
				t.Errorf("Of(%d, %d, %d) %d, %d", w, h, i, k, e)
			}
		}
	}
}

// P10.2, P10.4
func TestParts(t *testing.T) {
	for _, s := range sizesOf() {
		w, h := s[0], s[1]
		free := scatter(w, h)
		parts, e := sector.Parts(w, h, free)
		if e != api.OK || !slices.Equal(parts, slow(w, h, free)) {
			t.Fatalf("Parts of %d times %d: %v, %d", w, h, parts, e)
		}
		for i, p := range parts {
			if p < 0 {
				continue
			}
			a, _ := sector.Of(w, h, i)
			if b, _ := sector.Of(w, h, p); a != b || p > i {
				t.Errorf("tile %d has the number %d", i, p)
			}
		}
	}
	free := slices.Repeat([]bool{true}, 64)
	if parts, _ := sector.Parts(8, 8, free); slices.Max(parts) != 0 || slices.Min(parts) != 0 {
		t.Errorf("Parts of the example: %v", parts)
	}
}

// P10.2: a snake, and tiles that touch at corners alone.
func TestShapes(t *testing.T) {
	free := []bool{true, false, true, true, true, false, true, false, true, false, true, true}
	if parts, _ := sector.Parts(4, 3, free); !slices.Equal(parts, []int{0, -1, 2, 2, 0, -1, 2, -1, 0, -1, 2, 2}) {
		t.Errorf("Parts %v", parts)
	}
	if parts, _ := sector.Parts(2, 2, []bool{true, false, false, true}); !slices.Equal(parts, []int{0, -1, -1, 3}) {
		t.Errorf("Parts of corners %v", parts)
	}
}

// P10.3
func TestRedo(t *testing.T) {
	for _, s := range sizesOf() {
		w, h := s[0], s[1]
		free := scatter(w, h)
		now := slow(w, h, free)
		old := make([]int, w*h)
		for i := range old {
			old[i] = 1000000 - i
		}
		for i := 0; i < w*h; i += 1 + w*h/50 {
			kept := slices.Clone(old)
			got, e := sector.Redo(w, h, free, old, i)
			k, _ := sector.Of(w, h, i)
			for j := range kept {
				if m, _ := sector.Of(w, h, j); m == k {
					kept[j] = now[j]
				}
			}
			if e != api.OK || !slices.Equal(got, kept) || old[i] != 1000000-i {
				t.Fatalf("Redo of %d times %d at %d: %d", w, h, i, e)
			}
		}
	}
}

// P10.1, P10.2, P10.3
func TestWrong(t *testing.T) {
	free, parts := make([]bool, 6), make([]int, 6)
	for _, s := range [][2]int{{0, 1}, {1, 0}, {129, 1}, {1, 129}, {-2, -3}, {math.MaxInt, math.MaxInt}, {1 << 32, 1 << 32}, {0, 0}} {
		if n, e := sector.Count(s[0], s[1]); n != 0 || e != api.ErrForm {
			t.Errorf("Count(%v) %d, %d", s, n, e)
		}
		if n, e := sector.Of(s[0], s[1], -1); n != 0 || e != api.ErrForm {
			t.Errorf("Of(%v) %d, %d", s, n, e)
		}
		if l, e := sector.Parts(s[0], s[1], free); len(l) > 0 || e != api.ErrForm {
			t.Errorf("Parts(%v) %v, %d", s, l, e)
		}
		if l, e := sector.Redo(s[0], s[1], free, parts, -1); len(l) > 0 || e != api.ErrForm {
			t.Errorf("Redo(%v) %v, %d", s, l, e)
		}
	}
	for _, n := range []int{0, 5, 7} {
		if l, e := sector.Parts(3, 2, make([]bool, n)); len(l) > 0 || e != api.ErrForm {
			t.Errorf("Parts of %d tiles: %v, %d", n, l, e)
		}
		if l, e := sector.Redo(3, 2, make([]bool, n), parts, -1); len(l) > 0 || e != api.ErrForm {
			t.Errorf("Redo of %d tiles: %v, %d", n, l, e)
		}
		if l, e := sector.Redo(3, 2, free, make([]int, n), -1); len(l) > 0 || e != api.ErrForm {
			t.Errorf("Redo of %d parts: %v, %d", n, l, e)
		}
	}
	for _, i := range []int{-1, 6, math.MinInt, math.MaxInt} {
		if l, e := sector.Redo(3, 2, free, parts, i); len(l) > 0 || e != api.ErrNone {
			t.Errorf("Redo at %d: %v, %d", i, l, e)
		}
	}
}
