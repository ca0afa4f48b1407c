package ground_test

import (
	"math"
	"slices"
	"testing"

	"throng/api"
	"throng/ground"
)

func plain(w, h int) api.Ground { return api.Ground{W: w, H: h, Tiles: make([]byte, w*h)} }

func sizes() [][2]int {
	return [][2]int{{1, 1}, {2, 1}, {1, 3}, {3, 2}, {5, 4}, {128, 1}, {1, 128}, {128, 128}}
}

// invalid returns grounds that are not valid.
func invalid() []api.Ground {
	wrong := plain(3, 2)
	wrong.Tiles[5] = 6
	first := plain(1, 1)
	first.Tiles[0] = 255
	return []api.Ground{{}, {W: 1}, {W: 0, H: 4}, {W: 4, H: 0}, {W: 129, H: 1, Tiles: make([]byte, 129)}, {W: 1, H: 129, Tiles: make([]byte, 129)},
		{W: -1, H: -1, Tiles: make([]byte, 1)}, {W: 3, H: 2, Tiles: make([]byte, 5)}, {W: 3, H: 2, Tiles: make([]byte, 7)},
		{W: math.MaxInt, H: math.MaxInt, Tiles: make([]byte, 1)}, {W: 1 << 32, H: 1 << 32}, wrong, first}
}

// P6.1
func TestCheck(t *testing.T) {
	for _, s := range sizes() {
		g := plain(s[0], s[1])
		for terrain := range 256 {
			g.Tiles[len(g.Tiles)-1] = byte(terrain)
			if e := ground.Check(g); (e == api.OK) != (terrain <= api.Rock) || e != api.OK && e != api.ErrForm {
				t.Errorf("Check with terrain %d: %d", terrain, e)
			}
		}
	}
	for i, g := range invalid() {
		if e := ground.Check(g); e != api.ErrForm {
			t.Errorf("invalid ground %d: %d", i, e)
		}
	}
}

// P6.1, P6.2: a ground that is not valid comes first, whatever else is wrong.
func TestInvalidGround(t *testing.T) {
	for i, g := range invalid() {
		for _, n := range []int{0, -1, 1 << 40} {
			if r, e := ground.Tile(g, n, n); r != 0 || e != api.ErrForm {
				t.Errorf("%d: Tile %d, %d", i, r, e)
			}
			if x, y, e := ground.XY(g, n); x != 0 || y != 0 || e != api.ErrForm {
				t.Errorf("%d: XY %d, %d, %d", i, x, y, e)
			}
			if p, e := ground.Center(g, n); p != (api.Vec{}) || e != api.ErrForm {
				t.Errorf("%d: Center %v, %d", i, p, e)
			}
			if r, e := ground.Of(g, api.Vec{X: int64(n), Y: int64(n)}); r != 0 || e != api.ErrForm {
				t.Errorf("%d: Of %d, %d", i, r, e)
			}
			if l, e := ground.Near(g, n); len(l) > 0 || e != api.ErrForm {
				t.Errorf("%d: Near %v, %d", i, l, e)
			}
		}
	}
}

// P6.1, P6.3
func TestTiles(t *testing.T) {
	for _, s := range sizes() {
		g := plain(s[0], s[1])
		for y := range g.H {
			for x := range g.W {
				n, e := ground.Tile(g, x, y)
				if n != x+g.W*y || e != api.OK {
					t.Fatalf("Tile(%d, %d) %d, %d", x, y, n, e)
				}
				if a, b, e := ground.XY(g, n); a != x || b != y || e != api.OK {
					t.Fatalf("XY(%d) %d, %d, %d", n, a, b, e)
				}
				p, e := ground.Center(g, n)
				if p != (api.Vec{X: int64(x)*65536 + 32768, Y: int64(y)*65536 + 32768}) || e != api.OK {
					t.Fatalf("Center(%d) %v, %d", n, p, e)
				}
				if m, e := ground.Of(g, p); m != n || e != api.OK {
					t.Fatalf("Of the centre of %d is %d, %d", n, m, e)
				}
			}
		}
	}
}

// P6.1
func TestNoTile(t *testing.T) {
	g := plain(3, 2)
	for _, c := range [][2]int{{-1, 0}, {3, 0}, {0, -1}, {0, 2}, {math.MinInt, 0}, {math.MaxInt, math.MaxInt}} {
		if n, e := ground.Tile(g, c[0], c[1]); n != 0 || e != api.ErrNone {
			t.Errorf("Tile(%v) %d, %d", c, n, e)
		}
	}
	for _, n := range []int{-1, 6, math.MinInt, math.MaxInt} {
		if x, y, e := ground.XY(g, n); x != 0 || y != 0 || e != api.ErrNone {
			t.Errorf("XY(%d) %d, %d, %d", n, x, y, e)
		}
		if p, e := ground.Center(g, n); p != (api.Vec{}) || e != api.ErrNone {
			t.Errorf("Center(%d) %v, %d", n, p, e)
		}
		if l, e := ground.Near(g, n); len(l) > 0 || e != api.ErrNone {
			t.Errorf("Near(%d) %v, %d", n, l, e)
		}
	}
}

// P6.2
func TestOf(t *testing.T) {
	g := plain(3, 2)
	for _, c := range []struct {
		p    api.Vec
		want int
		e    api.Errno
	}{
		{api.Vec{}, 0, api.OK},
		{api.Vec{X: api.One - 1, Y: api.One - 1}, 0, api.OK},
		{api.Vec{X: api.One, Y: api.One - 1}, 1, api.OK},
		{api.Vec{X: api.One - 1, Y: api.One}, 3, api.OK},
		{api.Vec{X: 3*api.One - 1, Y: 2*api.One - 1}, 5, api.OK},
		{api.Vec{X: 3 * api.One}, 0, api.ErrNone},
		{api.Vec{Y: 2 * api.One}, 0, api.ErrNone},
		{api.Vec{X: -1}, 0, api.ErrNone},
		{api.Vec{Y: -1}, 0, api.ErrNone},
		{api.Vec{X: math.MinInt64, Y: math.MinInt64}, 0, api.ErrNone},
		{api.Vec{X: math.MaxInt64, Y: math.MaxInt64}, 0, api.ErrNone},
	} {
		if n, e := ground.Of(g, c.p); n != c.want || e != c.e {
			t.Errorf("Of(%v) %d, %d", c.p, n, e)
		}
	}
}

// P6.2
func TestNear(t *testing.T) {
	ways := [][2]int{{0, -1}, {1, 0}, {0, 1}, {-1, 0}, {1, -1}, {1, 1}, {-1, 1}, {-1, -1}}
	for _, s := range sizes() {
		g := plain(s[0], s[1])
		for n := 0; n < g.W*g.H; n += 1 + g.W*g.H/200 {
			var want []int
			for _, d := range ways {
				m, e := ground.Tile(g, n%g.W+d[0], n/g.W+d[1])
				if e != api.OK {
					m = -1
				}
				want = append(want, m)
			}
			if l, e := ground.Near(g, n); !slices.Equal(l, want) || e != api.OK {
				t.Fatalf("Near(%d) %v, %d, want %v", n, l, e, want)
			}
		}
	}
	if l, _ := ground.Near(plain(3, 2), 0); !slices.Equal(l, []int{-1, 1, 3, -1, -1, 4, -1, -1}) {
		t.Errorf("Near of the example is %v", l)
	}
}

// R2
func TestNearIsNew(t *testing.T) {
	g := plain(3, 3)
	a, _ := ground.Near(g, 4)
	clear(a)
	if b, _ := ground.Near(g, 4); !slices.Equal(b, []int{1, 5, 7, 3, 2, 8, 6, 0}) {
		t.Errorf("Near after a write: %v", b)
	}
}
