package kind_test

import (
	"math"
	"testing"

	"throng/api"
	"throng/kind"
)

// P5.1
func TestOf(t *testing.T) {
	want := []api.Kind{
		{Radius: 24576, Speed: 16384, Class: 0, Size: 0, Room: 0},
		{Radius: 32768, Speed: 24576, Class: 1, Size: 0, Room: 0},
		{Radius: 81920, Speed: 8192, Class: 0, Size: 1, Room: 0},
		{Radius: 32768, Speed: 16384, Class: 2, Size: 0, Room: 4},
	}
	for k, w := range want {
		if got, e := kind.Of(k); got != w || e != api.OK {
			t.Errorf("Of(%d) %v, %d, want %v", k, got, e, w)
		}
	}
	for _, k := range []int{-1, 4, 5, math.MinInt, math.MaxInt, 256, 1 << 32} {
		if got, e := kind.Of(k); got != (api.Kind{}) || e != api.ErrForm {
			t.Errorf("Of(%d) %v, %d", k, got, e)
		}
	}
}

// P5.2
func TestCost(t *testing.T) {
	want := [][]int{{2, 1, 3, 5, 0, 0}, {2, 1, 6, 0, 0, 0}, {2, 1, 0, 3, 2, 0}}
	for class := -2; class < 6; class++ {
		for terrain := range 256 {
			c, e := kind.Cost(class, byte(terrain))
			if class < 0 || class > 2 || terrain > 5 {
				if c != 0 || e != api.ErrForm {
					t.Errorf("Cost(%d, %d) %d, %d", class, terrain, c, e)
				}
			} else if c != want[class][terrain] || e != api.OK {
				t.Errorf("Cost(%d, %d) %d, %d", class, terrain, c, e)
			}
		}
	}
	for _, class := range []int{math.MinInt, math.MaxInt} {
		if c, e := kind.Cost(class, 0); c != 0 || e != api.ErrForm {
			t.Errorf("Cost(%d, 0) %d, %d", class, c, e)
		}
	}
}

// P5.3
func TestDiscsFit(t *testing.T) {
	for k := range api.Kinds {
		if of, _ := kind.Of(k); 2*of.Radius > int64(2*of.Size+1)*api.One {
			t.Errorf("kind %d does not fit", k)
		}
	}
}
