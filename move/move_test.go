package move_test

import (
	"math"
	"testing"

	"throng/api"
	"throng/army"
	"throng/copies"
	"throng/fields"
	"throng/ground"
	"throng/move"
	"throng/sample"
)

func open(t *testing.T, room int) *fields.Fields {
	t.Helper()
	f, e := fields.New(room)
	if e != api.OK {
		t.Fatal(e)
	}
	return f
}

// vectors returns ways that a unit may try.
func vectors(d *sample.Dice) []api.Vec {
	l := []api.Vec{{}, {X: 1}, {Y: -1}, {X: -15, Y: 16}, {X: api.One / 4}, {X: -3 * api.One, Y: 5 * api.One}, {X: math.MinInt64, Y: 1}, {X: math.MaxInt64, Y: math.MinInt64}, {X: 1 << 41}}
	for range 6 {
		l = append(l, api.Vec{X: int64(d.Roll(4*api.One) - 2*api.One), Y: int64(d.Roll(api.One) - api.One/2)})
	}
	return l
}

// P24.1, P24.2, P24.4: against the model.
func TestOneUnit(t *testing.T) {
	d := sample.Dice(4)
	tried := map[int]int{}
	for range 12 {
		w := some(7+d.Roll(8), 6+d.Roll(6), &d)
		kept := copies.World(w)
		for i, u := range w.Units {
			if u.In != 0 {
				refused(t, w, u.ID, api.ErrAway)
				continue
			}
			for _, v := range vectors(&d) {
				x, k, e := move.Try(w, u.ID, v)
				want, wantK := modelTry(w, i, v)
				if e != api.OK || k != wantK || !sample.SameWorld(x, want) {
					t.Fatalf("Try(%v, %v) %d, %d, want %d", u, v, k, e, wantK)
				}
				tried[k]++
			}
			x, e := move.Unit(w, u.ID)
			if want := modelUnit(w, i); e != api.OK || !sample.SameWorld(x, want) {
				t.Fatalf("Unit(%v) %v, %d, want %v", u, x.Units[i], e, want.Units[i])
			}
			clear(x.Units)
		}
		if !sample.SameWorld(w, kept) {
			t.Fatal("the world that was handed in changed")
		}
	}
	for k := range 6 {
		if tried[k] == 0 {
			t.Errorf("no try ended with %d: %v", k, tried)
		}
	}
}

// P24.3, P24.4: many ticks, against the model, with fields of any room.
func TestAllUnits(t *testing.T) {
	d := sample.Dice(9)
	states := map[int]int{}
	for round := range 6 {
		w := some(8+d.Roll(8), 7+d.Roll(8), &d)
		few, many := open(t, 1), open(t, 100)
		for range 60 {
			kept := copies.World(w)
			x, e := move.All(w, few)
			y, f := move.All(w, many)
			want := modelAll(w)
			if e != api.OK || f != api.OK || !sample.SameWorld(x, want) || !sample.SameWorld(y, want) || !sample.SameWorld(w, kept) {
				t.Fatalf("round %d: %d, %d", round, e, f)
			}
			if army.Check(x) != api.OK {
				t.Fatalf("round %d: the world is not valid", round)
			}
			w = command(x, &d)
			for _, u := range w.Units {
				states[u.State]++
			}
		}
	}
	for state := range api.GaveUp + 1 {
		if states[state] == 0 {
			t.Errorf("no unit came to state %d: %v", state, states)
		}
	}
}

func refused(t *testing.T, w api.World, id int, want api.Errno) {
	t.Helper()
	if x, k, e := move.Try(w, id, api.Vec{X: 1}); e != want || k != 0 || !sample.SameWorld(x, api.World{}) {
		t.Errorf("Try(%d) %d, %d, want %d", id, k, e, want)
	}
	if x, e := move.Unit(w, id); e != want || !sample.SameWorld(x, api.World{}) {
		t.Errorf("Unit(%d) %d, want %d", id, e, want)
	}
}

// line returns a plain ground of w times 3 tiles with a soldier at the centre of tile 0 of the middle row, on its way.
func line(w, goal int) api.World {
	x := api.World{Players: 1, NextID: 9, Ground: api.Ground{W: w, H: 3, Tiles: make([]byte, 3*w)}}
	p, _ := ground.Center(x.Ground, w)
	x.Units = []api.Unit{{ID: 1, Owner: 1, Pos: p, Goal: w + goal, Next: -1, State: api.Moving}}
	return x
}

// P24.1, P24.2, P24.3
func TestWrong(t *testing.T) {
	w := line(3, 1)
	for _, id := range []int{0, -1, 2, math.MinInt, math.MaxInt} {
		refused(t, w, id, api.ErrNone)
	}
	w.Units = append(w.Units, api.Unit{ID: 5, Owner: 1, Kind: 3, Pos: api.Vec{X: 5 * api.One / 2, Y: api.One / 2}, Goal: -1, Next: -1}, api.Unit{ID: 8, Owner: 1, Goal: -1, Next: -1, In: 5})
	refused(t, w, 8, api.ErrAway)
	f := open(t, 1)
	if x, e := move.All(w, f); e != api.OK || x.Units[2] != w.Units[2] {
		t.Errorf("All with a unit in a carrier: %v, %d", x.Units, e)
	}
	if x, e := move.All(w, nil); e != api.ErrForm || !sample.SameWorld(x, api.World{}) {
		t.Errorf("All without fields: %d", e)
	}
	w.Units[0].State = api.Idle
	refused(t, w, 1, api.ErrForm)
	refused(t, w, 99, api.ErrForm)
	if x, e := move.All(w, f); e != api.ErrForm || !sample.SameWorld(x, api.World{}) {
		t.Errorf("All in a wrong world: %d", e)
	}
}

// P24.2: the example.
func TestExample(t *testing.T) {
	w, f := line(3, 1), open(t, 4)
	goal, _ := ground.Center(w.Ground, 4)
	for n := range 4 {
		w, _ = move.All(w, f)
		if u := w.Units[0]; u.State != api.Moving || u.Next != 4 || u.Stuck != 0 || (u.Pos == goal) != (n == 3) {
			t.Errorf("after %d moves: %v", n+1, u)
		}
	}
	w, _ = move.All(w, f)
	if w.Units[0] != (api.Unit{ID: 1, Owner: 1, Pos: goal, Goal: -1, Next: -1, State: api.Arrived}) {
		t.Errorf("after five moves: %v", w.Units[0])
	}
}

// P24.2: a unit whose goal cannot be reached is lost at the centre of its tile.
func TestLost(t *testing.T) {
	w := line(5, 4)
	for _, i := range []int{3, 8, 13} {
		w.Ground.Tiles[i] = api.Rock
	}
	w.Units[0].Pos.X -= 100
	w.Units[0].Next, w.Units[0].Stuck = 7, 3
	w, _ = move.Unit(w, 1)
	if u := w.Units[0]; u.Next != 5 || u.State != api.Moving || u.Stuck != 0 {
		t.Fatalf("off the centre: %v", u)
	}
	w, _ = move.Unit(w, 1)
	if u := w.Units[0]; u.State != api.Lost || u.Goal != -1 || u.Next != -1 {
		t.Errorf("at the centre: %v", u)
	}
}

// P24.2: a unit that is in the way of another makes it give up after MaxWait moves.
func TestGiveUp(t *testing.T) {
	w := line(4, 3)
	w.Ground = api.Ground{W: 4, H: 1, Tiles: make([]byte, 4)}
	w.Units[0].Pos, w.Units[0].Goal = api.Vec{X: api.One / 2, Y: api.One / 2}, 3
	w.Units = append(w.Units, api.Unit{ID: 2, Owner: 1, Kind: 1, Pos: api.Vec{X: api.One/2 + 7*api.One/8, Y: api.One / 2}, Goal: -1, Next: -1})
	for n := range 7 {
		w, _ = move.Unit(w, 1)
		if u := w.Units[0]; u.Stuck != n+1 || u.Next != -1 || u.State != api.Moving || u.Goal != 3 {
			t.Fatalf("after %d moves: %v", n+1, u)
		}
	}
	w, _ = move.Unit(w, 1)
	if u := w.Units[0]; u.Stuck != 0 || u.Next != -1 || u.State != api.GaveUp || u.Goal != -1 {
		t.Errorf("after eight moves: %v", u)
	}
}

// P24.2: units without goals leave a gap.
func TestGap(t *testing.T) {
	w := line(4, 3)
	w.Units[0] = api.Unit{ID: 1, Owner: 1, Pos: api.Vec{X: 2 * api.One, Y: 3 * api.One / 2}, Goal: -1, Next: -1, State: api.Lost}
	near := api.Unit{ID: 2, Owner: 1, Pos: api.Vec{X: 2*api.One + 3*api.One/4, Y: 3 * api.One / 2}, Goal: -1, Next: -1}
	w.Units = append(w.Units, near)
	x, e := move.Unit(w, 1)
	if u := x.Units[0]; e != api.OK || u.Pos != (api.Vec{X: 2*api.One - api.One/16, Y: 3 * api.One / 2}) || u.State != api.Lost {
		t.Errorf("a unit too near: %v, %d", u, e)
	}
	w.Units[1].Pos.X += api.Gap - 1
	if x, _ = move.Unit(w, 1); x.Units[0].Pos.X != 2*api.One-1 {
		t.Errorf("a unit almost far enough: %v", x.Units[0])
	}
	w.Units[1].Pos.X++
	if x, _ = move.Unit(w, 1); x.Units[0] != w.Units[0] {
		t.Errorf("a unit far enough: %v", x.Units[0])
	}
}

// P24.4
func TestWholeStep(t *testing.T) {
	w := line(9, 0)
	for _, v := range []api.Vec{{X: 8 * api.One}, {X: 7*api.One + 3, Y: -api.One}, {X: 5, Y: 7}} {
		x, k, e := move.Try(w, 1, v)
		if k != 0 || e != api.OK || x.Units[0].Pos != (api.Vec{X: api.One/2 + v.X, Y: 3*api.One/2 + v.Y}) {
			t.Errorf("Try(%v) %v, %d, %d", v, x.Units[0].Pos, k, e)
		}
	}
}
