package steer_test

import (
	"math"
	"slices"
	"testing"

	"throng/api"
	"throng/fixed"
	"throng/steer"
	"throng/vec"
)

// vectors returns vectors at the edges and some without a pattern.
func vectors() []api.Vec {
	numbers := []int64{0, 1, -1, api.One, -3 * api.One, 4 * api.One, 1 << 40, -1 << 60, api.Most, -api.Most, math.MinInt64}
	var l []api.Vec
	for _, x := range numbers {
		for _, y := range numbers {
			l = append(l, api.Vec{X: x, Y: y})
		}
	}
	seed := uint64(21)
	for range 60 {
		seed = seed*6364136223846793005 + 1442695040888963407
		l = append(l, api.Vec{X: int64(seed<<1) >> 45, Y: int64(seed<<20) >> 45})
	}
	return l
}

func speeds() []int64 {
	return []int64{math.MinInt64, -1, 0, 1, api.One / 4, api.One, 5 * api.One, 1 << 50, api.Most}
}

// P19.1, P19.3
func TestToward(t *testing.T) {
	l := vectors()
	for i, p := range l {
		q := l[(i*37+11)%len(l)]
		for _, speed := range speeds() {
			got := steer.Toward(p, q, speed)
			if got != vec.Clamp(vec.Sub(q, p), speed) {
				t.Errorf("Toward(%v, %v, %d) %v", p, q, speed, got)
			}
			if steer.Toward(p, p, speed) != (api.Vec{}) {
				t.Errorf("Toward(%v, %v, %d) %v", p, p, speed, got)
			}
			if small(p) && small(q) && vec.Len(got) > max(speed, 0) {
				t.Errorf("Toward(%v, %v, %d) is %d long", p, q, speed, vec.Len(got))
			}
		}
	}
	if got := steer.Toward(api.Vec{X: 1}, api.Vec{X: 1 + 10*api.One}, api.One/4); got != (api.Vec{X: api.One / 4}) {
		t.Errorf("Toward %v", got)
	}
}

func small(p api.Vec) bool {
	return p.X >= -1<<60 && p.X <= 1<<60 && p.Y >= -1<<60 && p.Y <= 1<<60
}

// apart is reckoned by the words of the document.
func apart(p api.Vec, r int64, l []api.Vec) api.Vec {
	sum := api.Vec{}
	for _, q := range l {
		if vec.Within(p, q, r) {
			d := vec.Sub(p, q)
			if d == (api.Vec{}) {
				d = api.Vec{X: api.One}
			}
			sum = vec.Add(sum, vec.Clamp(d, r-vec.Len(vec.Sub(p, q))))
		}
	}
	return sum
}

// P19.1
func TestApart(t *testing.T) {
	l := vectors()
	for _, p := range l {
		for _, r := range speeds() {
			if got := steer.Apart(p, r, l); got != apart(p, r, l) {
				t.Errorf("Apart(%v, %d) %v, want %v", p, r, got, apart(p, r, l))
			}
		}
	}
	if got := steer.Apart(api.Vec{X: 3}, 10, nil); got != (api.Vec{}) {
		t.Errorf("Apart from nothing %v", got)
	}
	if got := steer.Apart(api.Vec{X: 3}, 10, []api.Vec{{X: 3}}); got != (api.Vec{X: 10}) {
		t.Errorf("Apart from the same place %v", got)
	}
	if got := steer.Apart(api.Vec{X: 30}, 40, []api.Vec{{X: 20}, {X: 60}, {X: 70}, {X: 30, Y: 39}}); got != (api.Vec{X: 10 - 10, Y: -1}) {
		t.Errorf("Apart of four %v", got)
	}
}

// P19.2, P19.3
func TestCohere(t *testing.T) {
	l := vectors()
	for i, p := range l {
		for n := range 5 {
			for _, speed := range speeds() {
				some := l[i*(len(l)-5)/len(l):][:n]
				got := steer.Cohere(p, some, speed)
				if n == 0 {
					if got != (api.Vec{}) {
						t.Errorf("Cohere with nothing %v", got)
					}
					continue
				}
				x, y := int64(0), int64(0)
				for _, q := range some {
					x, y = fixed.Add(x, q.X), fixed.Add(y, q.Y)
				}
				if want := steer.Toward(p, api.Vec{X: x / int64(n), Y: y / int64(n)}, speed); got != want {
					t.Errorf("Cohere(%v, %v, %d) %v, want %v", p, some, speed, got, want)
				}
				if small(p) && !slices.ContainsFunc(some, func(q api.Vec) bool { return !small(q) }) && vec.Len(got) > max(speed, 0) {
					t.Errorf("Cohere(%v, %v, %d) is %d long", p, some, speed, vec.Len(got))
				}
			}
		}
	}
	if got := steer.Cohere(api.Vec{}, []api.Vec{{X: -3, Y: 4}, {X: -4, Y: 5}}, 100); got != (api.Vec{X: -3, Y: 4}) {
		t.Errorf("Cohere rounds to %v", got)
	}
}
