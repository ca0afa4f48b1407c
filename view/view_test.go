package view_test

import (
	"slices"
	"strings"
	"testing"

	"throng/api"
	"throng/view"
)

// camp returns a valid world with all kinds of units, and two soldiers of whom both stand in one tile.
func camp() api.World {
	at := func(x, y int64) api.Vec { return api.Vec{X: x * api.One / 8, Y: y * api.One / 8} }
	unit := func(id, k int, p api.Vec, goal, in int) api.Unit {
		state := api.Idle
		if goal >= 0 {
			state = api.Moving
		}
		return api.Unit{ID: id, Owner: 1, Kind: k, Pos: p, Goal: goal, Next: -1, In: in, State: state}
	}
	g := api.Ground{W: 8, H: 7, Tiles: make([]byte, 56)}
	for x := range 6 {
		g.Tiles[x] = byte(x)
	}
	return api.World{Players: 1, NextID: 50, Ground: g,
		Buildings: []api.Building{{ID: 2, Owner: 1, X: 0, Y: 1, W: 2, H: 1}, {ID: 7, Owner: 1, X: 6, Y: 0, W: 1, H: 3}},
		Units: []api.Unit{unit(1, 0, at(20, 20), -1, 0), unit(3, 0, at(35, 20), 55, 0), unit(4, 1, at(4, 28), -1, 0), unit(5, 1, at(20, 28), 3, 0),
			unit(8, 2, at(12, 44), -1, 0), unit(9, 2, at(36, 44), 0, 0), unit(10, 3, at(60, 28), -1, 0), unit(11, 3, at(60, 44), 0, 0),
			unit(12, 0, at(52, 51), 7, 0), unit(13, 0, at(52, 42), -1, 0), unit(20, 0, api.Vec{}, -1, 10)}}
}

// P31.1
func TestDraw(t *testing.T) {
	want := []string{
		".=fm~^#.",
		"##....#.",
		"..s.S.#.",
		"w.W....c",
		"........",
		".g..G.sC",
		"......S.",
	}
	l, e := view.Draw(camp())
	if e != api.OK || !slices.Equal(l, want) {
		t.Errorf("Draw %d\n%s", e, strings.Join(l, "\n"))
	}
}

// P31.1: of two in one tile, the one with the smaller ID is seen.
func TestSmallestID(t *testing.T) {
	w := api.World{Players: 1, NextID: 9, Ground: api.Ground{W: 2, H: 2, Tiles: make([]byte, 4)}}
	w.Units = []api.Unit{{ID: 1, Owner: 1, Pos: api.Vec{X: api.One * 3 / 8, Y: api.One * 3 / 8}, Goal: -1, Next: -1}, {ID: 2, Owner: 1, Pos: api.Vec{X: api.One - 1, Y: api.One - 1}, Goal: 3, Next: -1, State: api.Moving}}
	if l, e := view.Draw(w); e != api.OK || !slices.Equal(l, []string{"s.", ".."}) {
		t.Errorf("Draw %v, %d", l, e)
	}
	w.Units[0].Pos, w.Units[1].Pos = w.Units[1].Pos, w.Units[0].Pos
	if l, e := view.Draw(w); e != api.OK || !slices.Equal(l, []string{"s.", ".."}) {
		t.Errorf("Draw the other way round %v, %d", l, e)
	}
	w.Units = w.Units[1:]
	if l, e := view.Draw(w); e != api.OK || !slices.Equal(l, []string{"S.", ".."}) {
		t.Errorf("Draw of one %v, %d", l, e)
	}
	w.Units[0].Pos = api.Vec{X: api.One, Y: api.One}
	if l, _ := view.Draw(w); !slices.Equal(l, []string{"..", ".S"}) {
		t.Errorf("Draw at a corner %v", l)
	}
}

// P31.1
func TestExampleAndWrong(t *testing.T) {
	w := api.World{Players: 1, NextID: 1, Ground: api.Ground{W: 1, H: 1, Tiles: []byte{0}}}
	if l, e := view.Draw(w); e != api.OK || !slices.Equal(l, []string{"."}) {
		t.Errorf("Draw of the example %v, %d", l, e)
	}
	w.Tick = -1
	for _, w := range []api.World{{}, w} {
		if l, e := view.Draw(w); e != api.ErrForm || len(l) > 0 {
			t.Errorf("Draw of a wrong world %v, %d", l, e)
		}
	}
}

// P31.2
func TestLetters(t *testing.T) {
	l, _ := view.Draw(camp())
	n := 0
	for _, c := range strings.Join(l, "") {
		if strings.ContainsRune("swgcSWGC", c) {
			n++
		}
	}
	if n != 10 {
		t.Errorf("%d letters", n)
	}
}
