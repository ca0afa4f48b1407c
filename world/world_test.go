package world_test

import (
	"math"
	"slices"
	"testing"

	"throng/api"
	"throng/apply"
	"throng/army"
	"throng/copies"
	"throng/field"
	"throng/ground"
	"throng/move"
	"throng/sample"
	"throng/world"
)

// some returns n commands; some of them are not valid.
func some(w api.World, d *sample.Dice, n int) []api.Command {
	var l []api.Command
	for range n {
		c := sample.Command(w, d)
		if d.Roll(9) == 0 {
			c.Player = d.Roll(2) * (w.Players + 1)
		}
		l = append(l, c)
	}
	return l
}

// plain performs a tick without any fields (T1).
func plain(w api.World, l []api.Command) (api.World, []api.Errno) {
	errors := make([]api.Errno, len(l))
	for i, c := range l {
		x, e := apply.Apply(w, c)
		if e == api.OK {
			w = x
		}
		errors[i] = e
	}
	for _, u := range w.Units {
		if u.In == 0 {
			w, _ = move.Unit(w, u.ID)
		}
	}
	w.Tick++
	return w, errors
}

func opened(t *testing.T, w api.World, room int) *world.Engine {
	t.Helper()
	x, e := world.Open(w, room)
	if x == nil || e != api.OK || !sample.SameWorld(x.World(), w) {
		t.Fatalf("Open with room %d: %d", room, e)
	}
	return x
}

// P25.2, P25.3, T1, T2
func TestAgainstPlain(t *testing.T) {
	d := sample.Dice(3)
	for range 5 {
		w, _ := world.New(sample.Ground(8+d.Roll(10), 8+d.Roll(10), &d, 16), 3)
		engines := []*world.Engine{opened(t, w, 1), opened(t, w, 3), opened(t, w, api.MaxUnits)}
		for tick := range 120 {
			l := some(w, &d, d.Roll(5))
			given := copies.Commands(l)
			want, wantErrors := plain(w, l)
			for i, x := range engines {
				errors, e := x.Step(l)
				if e != api.OK || !slices.Equal(errors, wantErrors) || !sample.SameWorld(x.World(), want) {
					t.Fatalf("engine %d, tick %d: %d, %v, want %v", i, tick, e, errors, wantErrors)
				}
			}
			for i, c := range l {
				if !slices.Equal(c.Units, given[i].Units) {
					t.Fatal("the commands that were handed in changed")
				}
			}
			if army.Check(want) != api.OK {
				t.Fatalf("tick %d: the world is not valid", tick)
			}
			if tick%40 == 7 { // an engine goes on from a state (T4)
				engines[1] = opened(t, want, 2)
			}
			w = want
		}
	}
}

// P25.1
func TestNew(t *testing.T) {
	d := sample.Dice(8)
	g := sample.Ground(5, 4, &d, 16)
	for _, players := range []int{1, 8} {
		w, e := world.New(g, players)
		if e != api.OK || !sample.SameWorld(w, api.World{Players: players, NextID: 1, Ground: g}) || army.Check(w) != api.OK {
			t.Errorf("New for %d: %v, %d", players, w, e)
		}
		clear(w.Ground.Tiles)
	}
	if slices.Max(g.Tiles) == 0 {
		t.Error("New handed out what it was given")
	}
	for _, players := range []int{0, 9, -1, math.MinInt, math.MaxInt} {
		if w, e := world.New(g, players); e != api.ErrForm || !sample.SameWorld(w, api.World{}) {
			t.Errorf("New for %d: %v, %d", players, w, e)
		}
	}
	g.Tiles[3] = 6
	if w, e := world.New(g, 1); e != api.ErrForm || !sample.SameWorld(w, api.World{}) {
		t.Errorf("New on a wrong ground: %v, %d", w, e)
	}
}

// P25.2
func TestOpen(t *testing.T) {
	d := sample.Dice(8)
	w, _ := world.New(sample.Ground(5, 4, &d, 16), 2)
	for _, room := range []int{0, -1, api.MaxUnits + 1, math.MinInt, math.MaxInt} {
		if x, e := world.Open(w, room); x != nil || e != api.ErrForm {
			t.Errorf("Open with room %d: %d", room, e)
		}
	}
	w.NextID = 0
	if x, e := world.Open(w, 1); x != nil || e != api.ErrForm {
		t.Errorf("Open of a wrong world: %d", e)
	}
}

// P25.2: the example, and the limits.
func TestStep(t *testing.T) {
	d := sample.Dice(8)
	w, _ := world.New(sample.Ground(5, 4, &d, 16), 2)
	x := opened(t, w, 1)
	l, e := x.Step(nil)
	w.Tick = 1
	if e != api.OK || len(l) > 0 || !sample.SameWorld(x.World(), w) {
		t.Errorf("Step %v, %d", l, e)
	}
	many := make([]api.Command, api.MaxPeers*api.MaxTurn+1)
	if l, e := x.Step(many); e != api.ErrLimit || len(l) > 0 || !sample.SameWorld(x.World(), w) {
		t.Errorf("Step with too many commands: %v, %d", l, e)
	}
	if l, e := x.Step(many[1:]); e != api.OK || len(l) != 512 || slices.Min(l) != api.ErrForm || slices.Max(l) != api.ErrForm {
		t.Errorf("Step with as many as may be: %v, %d", l, e)
	}
	w.Tick = api.MaxTicks - 1
	x = opened(t, w, 1)
	if _, e := x.Step(nil); e != api.OK || x.World().Tick != api.MaxTicks {
		t.Errorf("the last tick: %d", e)
	}
	w.Tick++
	if l, e := x.Step(many); e != api.ErrState || len(l) > 0 || !sample.SameWorld(x.World(), w) {
		t.Errorf("one more tick: %v, %d", l, e)
	}
}

// R2: neither what was handed in nor what was handed out is the state.
func TestNothingShared(t *testing.T) {
	d := sample.Dice(8)
	w, _ := world.New(sample.Ground(9, 9, &d, 16), 2)
	for _, c := range some(w, &d, 40) {
		if x, e := apply.Apply(w, c); e == api.OK {
			w = x
		}
	}
	kept := copies.World(w)
	x := opened(t, w, 4)
	clear(w.Units)
	clear(w.Ground.Tiles)
	clear(w.Buildings)
	y := x.World()
	if !sample.SameWorld(y, kept) {
		t.Error("the state is what was handed in")
	}
	clear(y.Units)
	clear(y.Ground.Tiles)
	clear(y.Buildings)
	_ = append(y.Units[:1], api.Unit{ID: 77})
	if !sample.SameWorld(x.World(), kept) {
		t.Error("the state was handed out")
	}
}

// R1: an engine that Open did not make.
func TestZero(t *testing.T) {
	var x world.Engine
	if l, e := x.Step(make([]api.Command, 2)); e == api.OK || len(l) > 0 || !sample.SameWorld(x.World(), api.World{}) {
		t.Errorf("Step %v, %d", l, e)
	}
}

// T3: a unit alone arrives if there is a way, and is lost if there is none.
func TestArrives(t *testing.T) {
	d := sample.Dice(5)
	seen := map[int]int{}
	for round := range 100 {
		g := sample.Ground(6+d.Roll(12), 6+d.Roll(12), &d, 16)
		for x := range g.W {
			if round%3 == 0 {
				g.Tiles[g.W*(g.H/2)+x] = api.Rock
			}
		}
		w, _ := world.New(g, 1)
		k := d.Roll(4)
		of := []struct{ class, size int }{{0, 0}, {1, 0}, {0, 1}, {2, 0}}[k]
		start, goal := d.Roll(len(g.Tiles)), d.Roll(len(g.Tiles))
		p, _ := ground.Center(g, start)
		x := opened(t, w, 2)
		if l, _ := x.Step([]api.Command{{Player: 1, Kind: api.CmdSpawn, N: k, At: p}}); l[0] != api.OK {
			continue
		}
		x.Step([]api.Command{{Player: 1, Kind: api.CmdMove, Units: []int{1}, Tile: goal}})
		want := api.Lost
		if to := x.World().Units[0].Goal; to >= 0 {
			goal = to
		}
		if costs, _ := field.Make(g, nil, of.class, of.size, goal); costs[start] >= 0 {
			want = api.Arrived
		}
		for range 5000 {
			if x.World().Units[0].State != api.Moving {
				break
			}
			x.Step(nil)
		}
		u := x.World().Units[0]
		at, _ := ground.Of(g, u.Pos)
		if seen[want]++; u.State != want || want == api.Arrived && at != goal {
			t.Errorf("kind %d from %d to %d: %v, want state %d", k, start, goal, u, want)
		}
	}
	if seen[api.Arrived] < 5 || seen[api.Lost] < 5 {
		t.Errorf("units came to %v", seen)
	}
}
