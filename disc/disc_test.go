package disc_test

import (
	"math"
	"math/big"
	"testing"

	"throng/api"
	"throng/clear"
	"throng/disc"
	"throng/field"
	"throng/ground"
	"throng/sample"
	"throng/vec"
)

// land returns a ground with some of every terrain, and a building on it.
func land(w, h, seed int) (api.Ground, []api.Building) {
	d := sample.Dice(seed)
	g := sample.Ground(w, h, &d, 16)
	g.Tiles[0] = api.Plain
	return g, []api.Building{{ID: 1, Owner: 1, W: 1, H: 1}}
}

// meets reckons with large numbers, by the words of the document.
func meets(g api.Ground, t int, p api.Vec, r int64) bool {
	nearest := func(a int64, column int) int64 {
		return min(max(a, int64(column)*api.One), int64(column+1)*api.One)
	}
	x, y := big.NewInt(p.X-nearest(p.X, t%g.W)), big.NewInt(p.Y-nearest(p.Y, t/g.W))
	square := new(big.Int).Add(x.Mul(x, x), y.Mul(y, y))
	of := big.NewInt(r)
	return square.Cmp(of.Mul(of, of)) < 0
}

// radii returns radii that are allowed.
func radii() []int64 {
	return []int64{0, 1, api.One / 2, 3 * api.One / 8, api.One - 1, api.One, 5 * api.One / 4, 3*api.One + 7, 4 * api.One}
}

// places returns positions around and on a ground.
func places(g api.Ground) []api.Vec {
	var l []api.Vec
	numbers := []int64{-1 << 40, -4 * api.One, -1, 0, 1, api.One / 2, api.One - 1, api.One, api.One + 1, 5 * api.One / 4, 7 * api.One / 2, 4*api.One + 77, int64(g.W)*api.One - api.One/2, int64(g.W) * api.One, int64(g.H) * api.One, int64(g.H)*api.One + 1, 1 << 40}
	for _, x := range numbers {
		for _, y := range numbers {
			l = append(l, api.Vec{X: x, Y: y})
		}
	}
	seed := uint64(g.W)
	for range 200 {
		seed = seed*6364136223846793005 + 1442695040888963407
		l = append(l, api.Vec{X: int64(seed>>40) % (int64(g.W) * api.One), Y: int64(seed>>20&0xffffff) % (int64(g.H) * api.One)})
	}
	return l
}

// P17.1
func TestMeets(t *testing.T) {
	g, _ := land(6, 5, 1)
	for _, p := range places(g) {
		for _, r := range radii() {
			for i := range g.Tiles {
				if is, e := disc.Meets(g, i, p, r); is != meets(g, i, p, r) || e != api.OK {
					t.Fatalf("Meets(%d, %v, %d) %v, %d", i, p, r, is, e)
				}
			}
		}
	}
	c, _ := ground.Center(g, 7)
	for _, r := range radii() {
		if is, _ := disc.Meets(g, 7, c, r); is != (r > 0) {
			t.Errorf("the centre with radius %d: %v", r, is)
		}
	}
	// The corner of tile 0 is at a distance of 5000.
	p := api.Vec{X: api.One + 3000, Y: api.One + 4000}
	if is, _ := disc.Meets(g, 0, p, 5000); is {
		t.Error("a disc that touches a corner")
	}
	if is, _ := disc.Meets(g, 0, p, 5001); !is {
		t.Error("a disc over a corner")
	}
}

// P17.2
func TestFree(t *testing.T) {
	for seed, s := range [][2]int{{6, 5}, {1, 1}, {12, 9}, {9, 20}} {
		g, l := land(s[0], s[1], seed)
		for class := range 3 {
			open, _ := clear.Open(g, l, class)
			for _, p := range places(g) {
				for _, r := range radii() {
					want := p.X >= r && p.X <= int64(g.W)*api.One-r && p.Y >= r && p.Y <= int64(g.H)*api.One-r
					for i := range open {
						if want && !open[i] && meets(g, i, p, r) {
							want = false
						}
					}
					if is, e := disc.Free(g, l, class, p, r); is != want || e != api.OK {
						t.Fatalf("%v: Free(%d, %v, %d) %v, %d", s, class, p, r, is, e)
					}
				}
			}
		}
	}
}

// P17.2
func TestApart(t *testing.T) {
	counted := func(r int64) int64 { return min(max(r, 0), 4*api.One) }
	numbers := append(radii(), -1, math.MinInt64, 4*api.One+1, math.MaxInt64)
	l := []api.Vec{{}, {X: 1}, {Y: -1}, {X: 3 * api.One, Y: 4 * api.One}, {X: api.One}, {X: 8 * api.One}, {X: 8*api.One - 1}, {X: math.MinInt64, Y: math.MinInt64}, {X: math.MaxInt64, Y: math.MaxInt64}}
	for _, p := range l {
		for _, q := range l {
			for _, r := range numbers {
				for _, s := range numbers {
					if is := disc.Apart(p, r, q, s); is != !vec.Within(p, q, counted(r)+counted(s)) {
						t.Fatalf("Apart(%v, %d, %v, %d) %v", p, r, q, s, is)
					}
				}
			}
		}
	}
	if !disc.Apart(api.Vec{}, 0, api.Vec{}, -5) || disc.Apart(api.Vec{}, 1, api.Vec{}, 0) || !disc.Apart(api.Vec{X: 5}, 2, api.Vec{}, 3) || disc.Apart(api.Vec{X: 5}, 3, api.Vec{}, 3) {
		t.Error("Apart of small discs")
	}
}

// P17.1, P17.2
func TestWrong(t *testing.T) {
	g, l := land(3, 2, 0)
	type call struct {
		g api.Ground
		p api.Vec
		r int64
	}
	for _, c := range []call{{api.Ground{}, api.Vec{}, 0}, {g, api.Vec{}, -1}, {g, api.Vec{}, 4*api.One + 1}, {g, api.Vec{}, math.MinInt64}, {g, api.Vec{X: 1<<40 + 1}, 0},
		{g, api.Vec{Y: 1<<40 + 1}, 0}, {g, api.Vec{X: -1<<40 - 1}, 0}, {g, api.Vec{Y: -1<<40 - 1}, 0}, {g, api.Vec{X: math.MinInt64}, 0}, {g, api.Vec{Y: math.MaxInt64}, 0}} {
		for _, i := range []int{0, -1, 99} {
			if is, e := disc.Meets(c.g, i, c.p, c.r); is || e != api.ErrForm {
				t.Errorf("Meets(%v, %d) %v, %d", c, i, is, e)
			}
		}
		if is, e := disc.Free(c.g, l, 0, c.p, c.r); is || e != api.ErrForm {
			t.Errorf("Free(%v) %v, %d", c, is, e)
		}
	}
	for _, i := range []int{-1, 6, math.MinInt, math.MaxInt} {
		if is, e := disc.Meets(g, i, api.Vec{}, 0); is || e != api.ErrNone {
			t.Errorf("Meets at %d: %v, %d", i, is, e)
		}
	}
	for _, class := range []int{-1, 3} {
		if is, e := disc.Free(g, l, class, api.Vec{}, 0); is || e != api.ErrForm {
			t.Errorf("Free for class %d: %v, %d", class, is, e)
		}
	}
	if is, e := disc.Free(g, append(l, l[0]), 0, api.Vec{}, 0); is || e != api.ErrForm {
		t.Errorf("Free with two buildings on a tile: %v, %d", is, e)
	}
}

// P17.3
func TestGoodTiles(t *testing.T) {
	for seed := range 4 {
		g, l := land(14, 14, seed)
		for class := range 3 {
			for size := range 3 {
				good, _ := field.Good(g, l, class, size)
				for i := range good {
					c, _ := ground.Center(g, i)
					if is, _ := disc.Free(g, l, class, c, int64(size)*api.One+api.One/2); good[i] && !is {
						t.Errorf("the disc at tile %d is not free", i)
					}
				}
			}
		}
	}
}
