package build_test

import (
	"math"
	"slices"
	"testing"

	"throng/api"
	"throng/build"
)

// land returns a plain ground, with a road in row 0 and every terrain but these in the last row.
func land() api.Ground {
	g := api.Ground{W: 8, H: 6, Tiles: make([]byte, 48)}
	for x := range g.W {
		g.Tiles[x] = api.Road
		g.Tiles[40+x] = byte(2 + x%4)
	}
	return g
}

func at(id, x, y, w, h int) api.Building {
	return api.Building{ID: id, Owner: 1, X: x, Y: y, W: w, H: h}
}

// many returns n buildings of one tile on a ground that has room for more.
func many(n int) (api.Ground, []api.Building) {
	g := api.Ground{W: 128, H: 3, Tiles: make([]byte, 384)}
	var l []api.Building
	for i := range n {
		l = append(l, at(i+1, i%128, i/128, 1, 1))
	}
	return g, l
}

// outOfRange returns buildings whose ID, Owner, W or H is out of its range.
func outOfRange() []api.Building {
	return []api.Building{
		{ID: 0, Owner: 1, W: 1, H: 1}, {ID: -1, Owner: 1, W: 1, H: 1}, {ID: api.MaxID + 1, Owner: 1, W: 1, H: 1},
		{ID: 9, Owner: 0, W: 1, H: 1}, {ID: 9, Owner: 9, W: 1, H: 1}, {ID: 9, Owner: 1, W: 0, H: 1}, {ID: 9, Owner: 1, W: 5, H: 1},
		{ID: 9, Owner: 1, W: 1, H: 0}, {ID: 9, Owner: 1, W: 1, H: 5}, {ID: 9, Owner: 1, W: math.MinInt, H: math.MaxInt},
	}
}

// outside returns buildings that are not on the ground.
func outside() []api.Building {
	return []api.Building{at(9, -1, 0, 1, 1), at(9, 0, -1, 1, 1), at(9, 8, 0, 1, 1), at(9, 0, 6, 1, 1), at(9, 5, 0, 4, 1), at(9, 0, 3, 1, 4),
		at(9, math.MaxInt, 0, 4, 4), at(9, 0, math.MaxInt, 4, 4), at(9, math.MinInt, math.MinInt, 1, 1), at(9, math.MaxInt-1, math.MaxInt-1, 3, 3)}
}

// P8.1
func TestCheck(t *testing.T) {
	g := land()
	good := [][]api.Building{nil, {at(1, 0, 0, 4, 4)}, {at(2, 4, 1, 4, 4), at(5, 0, 0, 1, 1), at(api.MaxID, 1, 0, 3, 4)}, {{ID: 3, Owner: 8, X: 7, Y: 4, W: 1, H: 1}}}
	for i, l := range good {
		if e := build.Check(g, l); e != api.OK {
			t.Errorf("good list %d: %d", i, e)
		}
	}
	bad := [][]api.Building{{at(2, 0, 0, 1, 1), at(2, 1, 0, 1, 1)}, {at(3, 0, 0, 1, 1), at(2, 1, 0, 1, 1)},
		{at(1, 0, 0, 2, 2), at(2, 1, 1, 1, 1)}, {at(1, 1, 1, 1, 1), at(2, 0, 0, 4, 4)}, {at(1, 0, 5, 1, 1)}, {at(1, 2, 2, 4, 4)}}
	for _, b := range append(outOfRange(), outside()...) {
		bad = append(bad, []api.Building{b})
	}
	for i, l := range bad {
		if e := build.Check(g, l); e != api.ErrForm {
			t.Errorf("bad list %d: %d", i, e)
		}
	}
	for _, n := range []int{api.MaxBuilt, api.MaxBuilt + 1} {
		g, l := many(n)
		if e := build.Check(g, l); (e == api.OK) != (n == api.MaxBuilt) {
			t.Errorf("%d buildings: %d", n, e)
		}
	}
	if e := build.Check(api.Ground{}, nil); e != api.ErrForm {
		t.Errorf("no ground: %d", e)
	}
}

func refused(t *testing.T, g api.Ground, l []api.Building, b api.Building, want api.Errno) {
	t.Helper()
	if r, e := build.Add(g, l, b); len(r) > 0 || e != want {
		t.Errorf("Add(%v) %v, %d, want %d", b, r, e, want)
	}
}

// P8.1
func TestAdd(t *testing.T) {
	g := land()
	l := []api.Building{at(4, 0, 0, 2, 2), at(8, 4, 1, 2, 3)}
	for i, b := range []api.Building{at(2, 2, 0, 1, 1), at(6, 2, 0, 2, 4), at(11, 6, 1, 2, 4)} {
		r, e := build.Add(g, l, b)
		if want := slices.Insert(slices.Clone(l), i, b); e != api.OK || !slices.Equal(r, want) {
			t.Errorf("Add(%v) %v, %d", b, r, e)
		}
	}
	for _, b := range outOfRange() {
		refused(t, g, l, b, api.ErrForm)
	}
	for _, b := range outside() {
		refused(t, g, l, b, api.ErrNone)
	}
	refused(t, g, l, at(4, 7, 0, 1, 1), api.ErrOverlap)
	refused(t, g, l, at(9, 1, 1, 1, 1), api.ErrOverlap)
	refused(t, g, l, at(9, 3, 3, 4, 3), api.ErrOverlap)
	for terrain := range 4 {
		refused(t, g, l, at(9, terrain, 5, 1, 1), api.ErrBlocked)
	}
	refused(t, g, l, at(9, 0, 4, 1, 2), api.ErrBlocked)
	refused(t, g, l, at(9, -1, 0, 5, 1), api.ErrForm)
	refused(t, g, l, at(4, 8, 0, 1, 1), api.ErrNone)
	refused(t, g, l, at(8, 0, 5, 1, 1), api.ErrOverlap)
	refused(t, g, []api.Building{l[1], l[0]}, at(9, 7, 0, 1, 1), api.ErrForm)
	refused(t, api.Ground{}, nil, at(9, 7, 0, 1, 1), api.ErrForm)
}

// P8.1
func TestAddToFull(t *testing.T) {
	g, l := many(api.MaxBuilt)
	g.Tiles[383] = api.Rock
	refused(t, g, l, at(300, 0, 2, 1, 1), api.ErrFull)
	refused(t, g, l, at(300, 127, 2, 1, 1), api.ErrBlocked)
	refused(t, g, l, at(300, 0, 1, 1, 1), api.ErrOverlap)
	if r, e := build.Add(g, l[1:], at(300, 0, 2, 1, 1)); len(r) != api.MaxBuilt || e != api.OK {
		t.Errorf("the last one: %d, %d", len(r), e)
	}
}

// P8.2
func TestDrop(t *testing.T) {
	l := []api.Building{at(-7, 0, 0, 9, 9), at(4, 0, 0, 9, 9), at(8, 4, 1, 2, 3)}
	for i, b := range l {
		if r, e := build.Drop(l, b.ID); e != api.OK || !slices.Equal(r, slices.Delete(slices.Clone(l), i, i+1)) {
			t.Errorf("Drop(%d) %v, %d", b.ID, r, e)
		}
	}
	for _, id := range []int{0, 5, 9, math.MinInt, math.MaxInt} {
		if r, e := build.Drop(l, id); len(r) > 0 || e != api.ErrNone {
			t.Errorf("Drop(%d) %v, %d", id, r, e)
		}
	}
	for _, l := range [][]api.Building{{at(4, 0, 0, 1, 1), at(4, 1, 0, 1, 1)}, {at(5, 0, 0, 1, 1), at(4, 1, 0, 1, 1)}} {
		for _, id := range []int{4, 5, 6} {
			if r, e := build.Drop(l, id); len(r) > 0 || e != api.ErrForm {
				t.Errorf("Drop(%v, %d) %v, %d", l, id, r, e)
			}
		}
	}
	if _, e := build.Drop(nil, 1); e != api.ErrNone {
		t.Errorf("Drop of nothing: %d", e)
	}
}

// P8.2
func TestCovered(t *testing.T) {
	g := land()
	l := []api.Building{at(4, 0, 0, 2, 3), at(8, 4, 1, 4, 1)}
	r, e := build.Covered(g, l)
	if e != api.OK || len(r) != 48 {
		t.Fatalf("Covered %v, %d", r, e)
	}
	for i, c := range r {
		x, y := i%8, i/8
		if want := x < 2 && y < 3 || x >= 4 && y == 1; c != want {
			t.Errorf("tile %d: %v", i, c)
		}
	}
	if r, e := build.Covered(g, []api.Building{at(1, 0, 5, 1, 1)}); len(r) > 0 || e != api.ErrForm {
		t.Errorf("Covered of a wrong list: %v, %d", r, e)
	}
	if r, e := build.Covered(api.Ground{}, nil); len(r) > 0 || e != api.ErrForm {
		t.Errorf("Covered of a wrong ground: %v, %d", r, e)
	}
}

// P8.3
func TestAnyOrder(t *testing.T) {
	g := land()
	l := []api.Building{at(1, 0, 0, 1, 1), at(2, 1, 0, 2, 1), at(3, 3, 0, 1, 3), at(4, 5, 2, 2, 2)}
	for _, order := range [][]int{{0, 1, 2, 3}, {3, 2, 1, 0}, {2, 0, 3, 1}, {1, 3, 0, 2}} {
		var r []api.Building
		for _, i := range order {
			r, _ = build.Add(g, r, l[i])
		}
		if !slices.Equal(r, l) {
			t.Errorf("order %v: %v", order, r)
		}
	}
}

// R2
func TestListsAreNew(t *testing.T) {
	g := land()
	l := append(make([]api.Building, 0, 9), at(4, 0, 0, 1, 1), at(8, 2, 0, 1, 1), at(9, 4, 0, 1, 1))
	kept := slices.Clone(l)
	a, _ := build.Add(g, l, at(6, 6, 0, 1, 1))
	b, _ := build.Drop(l, 4)
	clear(a[:cap(a)])
	clear(b[:cap(b)])
	if !slices.Equal(l, kept) {
		t.Error("the list that was handed in changed")
	}
}
