package route_test

import (
	"cmp"
	"math"
	"slices"
	"testing"

	"throng/api"
	"throng/field"
	"throng/ground"
	"throng/kind"
	"throng/portal"
	"throng/route"
	"throng/sample"
	"throng/sector"
)

// land returns a ground with some of every terrain (the more rocks, the more of them), and buildings on it.
func land(w, h, seed, rocks int) (api.Ground, []api.Building) {
	d := sample.Dice(seed)
	g := sample.Ground(w, h, &d, 32)
	for t := range g.Tiles {
		if d.Roll(32) < rocks {
			g.Tiles[t] = api.Rock
		}
	}
	return g, sample.Buildings(g, 31, 7)
}

// plain returns a ground that is all plain.
func plain(w, h int) api.Ground { return api.Ground{W: w, H: h, Tiles: make([]byte, w*h)} }

// model reckons routes slowly: the best route from each tile, made better until nothing changes.
type model struct {
	g       api.Ground
	class   int
	good    []bool
	sectors []int
	portals []api.Portal
}

func newModel(g api.Ground, l []api.Building, class, size int) model {
	m := model{g: g, class: class}
	m.good, _ = field.Good(g, l, class, size)
	m.portals, _ = portal.Find(g.W, g.H, m.good)
	for t := range g.Tiles {
		s, _ := sector.Of(g.W, g.H, t)
		m.sectors = append(m.sectors, s)
	}
	return m
}

func (m model) cost(t int) int {
	c, _ := kind.Cost(m.class, m.g.Tiles[t])
	return c
}

// steps tells the steps from t within its sector: tile and cost.
func (m model) steps(t int) map[int]int {
	l := map[int]int{}
	near, _ := ground.Near(m.g, t)
	for i, to := range near {
		if to < 0 || !m.good[t] || !m.good[to] || m.sectors[to] != m.sectors[t] {
			continue
		}
		if i < 4 {
			l[to] = 5 * (m.cost(t) + m.cost(to))
		} else if m.good[to%m.g.W+m.g.W*(t/m.g.W)] && m.good[t%m.g.W+m.g.W*(to/m.g.W)] {
			l[to] = 7 * (m.cost(t) + m.cost(to))
		}
	}
	return l
}

// best returns the best routes to goal from all tiles; Cost is -1 where there is none.
func (m model) best(goal int) []api.Route {
	routes := make([]api.Route, len(m.good))
	for t := range routes {
		routes[t].Cost = -1
	}
	routes[goal] = api.Route{Sectors: []int{m.sectors[goal]}}
	better := func(a, b api.Route) bool {
		if b.Cost < 0 {
			return true
		}
		return cmp.Or(a.Cost-b.Cost, len(a.Portals)-len(b.Portals), slices.Compare(a.Portals, b.Portals)) < 0
	}
	for changed := true; changed; {
		changed = false
		for t := range routes {
			for to, cost := range m.steps(t) {
				if n := routes[to]; n.Cost >= 0 {
					n.Cost += cost
					if better(n, routes[t]) {
						routes[t], changed = n, true
					}
				}
			}
		}
		for number, p := range m.portals {
			for _, way := range [][2]int{{p.A, p.B}, {p.B, p.A}} {
				n := routes[way[1]]
				if n.Cost < 0 {
					continue
				}
				n = api.Route{Cost: n.Cost + 5*(m.cost(p.A)+m.cost(p.B)), Portals: append([]int{number}, n.Portals...),
					Sectors: append([]int{m.sectors[way[0]]}, n.Sectors...)}
				if better(n, routes[way[0]]) {
					routes[way[0]], changed = n, true
				}
			}
		}
	}
	return routes
}

func equal(a, b api.Route) bool {
	return a.Cost == b.Cost && slices.Equal(a.Portals, b.Portals) && slices.Equal(a.Sectors, b.Sectors)
}

// P14.1, P14.2
func TestAgainstModel(t *testing.T) {
	for seed, s := range [][3]int{{1, 1, 0}, {9, 9, 4}, {17, 9, 8}, {20, 20, 0}, {24, 24, 9}, {33, 20, 12}, {25, 30, 5}, {16, 40, 10}} {
		g, l := land(s[0], s[1], seed+1, s[2])
		for class := range 3 {
			for size := range 2 {
				m := newModel(g, l, class, size)
				for goal := seed % 3; goal < len(m.good); goal += 1 + len(m.good)/4 {
					compare(t, m, l, size, goal)
				}
			}
		}
	}
}

// compare asks for routes to goal from many tiles.
func compare(t *testing.T, m model, l []api.Building, size, goal int) {
	t.Helper()
	routes := make([]api.Route, len(m.good))
	if m.good[goal] {
		routes = m.best(goal)
	}
	costs, _ := field.Make(m.g, l, m.class, size, goal)
	for start := 0; start < len(m.good); start += 1 + len(m.good)/60 {
		r, e := route.Find(m.g, l, m.class, size, start, goal)
		if costs[start] < 0 {
			if e != api.ErrBlocked || !equal(r, api.Route{}) {
				t.Fatalf("no way from %d to %d: %v, %d", start, goal, r, e)
			}
			continue
		}
		if e != api.OK || !equal(r, routes[start]) {
			t.Fatalf("class %d, size %d, from %d to %d: %v, %d, want %v", m.class, size, start, goal, r, e, routes[start])
		}
		if r.Cost < costs[start] {
			t.Errorf("from %d to %d: the route costs %d, the way %d", start, goal, r.Cost, costs[start])
		}
		sound(t, m, r, start, goal)
	}
}

// sound asks whether the lists fit each other, and no portal occurs twice.
func sound(t *testing.T, m model, r api.Route, start, goal int) {
	t.Helper()
	if len(r.Sectors) != len(r.Portals)+1 || r.Sectors[0] != m.sectors[start] || r.Sectors[len(r.Portals)] != m.sectors[goal] {
		t.Fatalf("from %d to %d: %v", start, goal, r)
	}
	seen := map[int]int{}
	for i, number := range r.Portals {
		p := m.portals[number]
		a, b := m.sectors[p.A], m.sectors[p.B]
		if seen[number]++; seen[number] > 1 || (r.Sectors[i] != a || r.Sectors[i+1] != b) && (r.Sectors[i] != b || r.Sectors[i+1] != a) {
			t.Fatalf("from %d to %d: %v", start, goal, r)
		}
	}
}

// P14.1: on plain ground many routes cost the same.
func TestTies(t *testing.T) {
	for _, s := range [][2]int{{24, 24}, {40, 17}, {32, 32}} {
		m := newModel(plain(s[0], s[1]), nil, api.Foot, 0)
		for goal := 0; goal < len(m.good); goal += 1 + len(m.good)/6 {
			compare(t, m, nil, 0, goal)
		}
	}
}

// P14.1
func TestSmall(t *testing.T) {
	g := plain(16, 8)
	for _, c := range []struct {
		start, goal int
		want        api.Route
	}{
		{5, 5, api.Route{Sectors: []int{0}}},
		{0, 7, api.Route{Cost: 140, Sectors: []int{0}}},
		{55, 56, api.Route{Cost: 20, Portals: []int{0}, Sectors: []int{0, 1}}},
		{56, 55, api.Route{Cost: 20, Portals: []int{0}, Sectors: []int{1, 0}}},
		{7, 8, api.Route{Cost: 140, Portals: []int{0}, Sectors: []int{0, 1}}},
	} {
		if r, e := route.Find(g, nil, api.Foot, 0, c.start, c.goal); e != api.OK || !equal(r, c.want) {
			t.Errorf("from %d to %d: %v, %d, want %v", c.start, c.goal, r, e, c.want)
		}
	}
}

// P14.1
func TestWrong(t *testing.T) {
	g, l := land(9, 9, 3, 8)
	g.Tiles[0], g.Tiles[1], g.Tiles[9] = api.Plain, api.Rock, api.Rock
	g.Tiles[80] = api.Plain
	none := []int{-1, 81, math.MinInt, math.MaxInt}
	for _, c := range []struct{ class, size int }{{-1, 0}, {3, 0}, {0, -1}, {0, 4}} {
		for _, tile := range append(none, 0) {
			refused(t, g, l, c.class, c.size, tile, tile, api.ErrForm)
		}
	}
	refused(t, api.Ground{}, nil, 0, 0, 0, 0, api.ErrForm)
	refused(t, g, append(slices.Clone(l), l[0]), 0, 0, 0, 0, api.ErrForm)
	for _, tile := range none {
		refused(t, g, l, 0, 0, tile, 1, api.ErrNone)
		refused(t, g, l, 0, 0, 1, tile, api.ErrNone)
	}
	refused(t, g, l, 0, 0, 0, 1, api.ErrBlocked)
	refused(t, g, l, 0, 0, 1, 0, api.ErrBlocked)
	refused(t, g, l, 0, 0, 1, 1, api.ErrBlocked)
	refused(t, g, nil, 0, 0, 0, 80, api.ErrBlocked)
	refused(t, g, nil, 0, 0, 80, 0, api.ErrBlocked)
}

func refused(t *testing.T, g api.Ground, l []api.Building, class, size, start, goal int, want api.Errno) {
	t.Helper()
	if r, e := route.Find(g, l, class, size, start, goal); e != want || !equal(r, api.Route{}) {
		t.Errorf("Find(%d, %d, %d, %d) %v, %d, want %d", class, size, start, goal, r, e, want)
	}
}
