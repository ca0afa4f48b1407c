package army_test

import (
	"bytes"
	"math"
	"slices"
	"testing"

	"throng/api"
	"throng/army"
	"throng/build"
	"throng/disc"
	"throng/ground"
	"throng/kind"
)

func at(x, y int64) api.Vec { return api.Vec{X: x * api.One / 2, Y: y * api.One / 2} }

// camp returns a valid world: two buildings, a unit of each kind on the field, and units in carriers.
func camp() api.World {
	g := api.Ground{W: 12, H: 10, Tiles: make([]byte, 120)}
	for x := range 12 {
		g.Tiles[x] = byte(x % 6)
		g.Tiles[60+x] = api.Road
	}
	idle := func(id, owner, k int, p api.Vec) api.Unit {
		return api.Unit{ID: id, Owner: owner, Kind: k, Pos: p, Goal: -1, Next: -1}
	}
	w := api.World{Tick: 7, Players: 3, NextID: 40, Ground: g,
		Buildings: []api.Building{{ID: 2, Owner: 1, X: 1, Y: 7, W: 2, H: 3}, {ID: 9, Owner: 3, X: 5, Y: 8, W: 1, H: 1}}}
	w.Units = []api.Unit{idle(1, 1, 0, at(3, 5)), idle(3, 1, 1, at(7, 5)), idle(4, 2, 2, at(17, 7)), idle(5, 3, 3, at(9, 13)), idle(6, 1, 3, at(3, 11)),
		idle(7, 3, 0, at(11, 5)), idle(8, 3, 0, api.Vec{}), idle(20, 3, 1, api.Vec{}), idle(21, 3, 2, api.Vec{}), idle(22, 1, 1, api.Vec{}), idle(39, 3, 0, api.Vec{})}
	for i, in := range map[int]int{6: 5, 7: 5, 8: 5, 9: 6, 10: 5} {
		w.Units[i].In = in
	}
	w.Units[1].Goal, w.Units[1].Next, w.Units[1].Stuck, w.Units[1].State = 119, 0, 7, api.Moving
	w.Units[2].State = api.Lost
	w.Units[5].State = api.GaveUp
	return w
}

// copied returns a copy of w.
func copied(w api.World) api.World {
	w.Ground.Tiles = bytes.Clone(w.Ground.Tiles)
	w.Buildings = slices.Clone(w.Buildings)
	w.Units = slices.Clone(w.Units)
	return w
}

// valid tells by the words of the document whether w is valid.
func valid(w api.World) bool {
	if w.Tick < 0 || w.Tick > api.MaxTicks || w.Players < 1 || w.Players > api.MaxPeers || w.NextID < 1 || w.NextID > api.MaxID || len(w.Units) > api.MaxUnits {
		return false
	}
	if ground.Check(w.Ground) != api.OK || build.Check(w.Ground, w.Buildings) != api.OK {
		return false
	}
	ids := map[int]int{}
	for _, b := range w.Buildings {
		if ids[b.ID]++; b.Owner > w.Players || b.ID >= w.NextID {
			return false
		}
	}
	for i, u := range w.Units {
		if ids[u.ID]++; ids[u.ID] > 1 || u.ID < 1 || u.ID >= w.NextID || i > 0 && w.Units[i-1].ID >= u.ID || u.Owner < 1 || u.Owner > w.Players {
			return false
		}
		if !validUnit(w, u) {
			return false
		}
	}
	return true
}

func validUnit(w api.World, u api.Unit) bool {
	of, e := kind.Of(u.Kind)
	n := w.Ground.W * w.Ground.H
	if e != api.OK || u.Goal < -1 || u.Goal >= n || u.Next < -1 || u.Next >= n || u.Stuck < 0 || u.Stuck > 7 || u.State < 0 || u.State > 4 {
		return false
	}
	if (u.State == api.Moving) != (u.Goal != -1) || u.Goal == -1 && (u.Next != -1 || u.Stuck != 0) {
		return false
	}
	if u.In == 0 {
		free, e := disc.Free(w.Ground, w.Buildings, of.Class, u.Pos, of.Radius)
		for _, v := range w.Units {
			other, _ := kind.Of(v.Kind)
			if v.ID != u.ID && v.In == 0 && !disc.Apart(u.Pos, of.Radius, v.Pos, other.Radius) {
				return false
			}
		}
		return free && e == api.OK
	}
	riders := 0
	for _, v := range w.Units {
		if v.In == u.In {
			riders++
		}
	}
	for _, v := range w.Units {
		if carrier, _ := kind.Of(v.Kind); v.ID == u.In {
			return v.In == 0 && v.Owner == u.Owner && riders <= carrier.Room && of.Room == 0 && u.Pos == (api.Vec{}) && u.Goal == -1 && u.State == api.Idle
		}
	}
	return false
}

// P21.1: what may be at the edge.
func TestValid(t *testing.T) {
	if e := army.Check(camp()); e != api.OK || !valid(camp()) {
		t.Fatalf("Check of a valid world: %d", e)
	}
	for i, change := range []func(w *api.World){
		func(w *api.World) { w.Tick = 0 },
		func(w *api.World) { w.Tick = api.MaxTicks },
		func(w *api.World) { w.Players = 8 },
		func(w *api.World) { w.NextID = api.MaxID },
		func(w *api.World) { w.Units = nil },
		func(w *api.World) { w.Units, w.Buildings, w.NextID = nil, nil, 1 },
		func(w *api.World) { w.Units[1].Stuck, w.Units[1].Next = 0, -1 },
		func(w *api.World) { w.Units[0].State = api.Arrived },
		func(w *api.World) { w.Units[0].Pos = api.Vec{X: 9 * api.One / 2, Y: api.One + 3*api.One/8} },
		func(w *api.World) { w.Units[1].Pos = api.Vec{X: w.Units[0].Pos.X + 7*api.One/8, Y: w.Units[0].Pos.Y} },
	} {
		w := camp()
		change(&w)
		if e := army.Check(w); e != api.OK || !valid(w) {
			t.Errorf("change %d: %d, %v", i, e, valid(w))
		}
	}
}

// invalid returns worlds that are not valid.
func invalid() []api.World {
	var l []api.World
	for _, change := range []func(w *api.World){
		func(w *api.World) { w.Tick = -1 },
		func(w *api.World) { w.Tick = api.MaxTicks + 1 },
		func(w *api.World) { w.Players = 0 },
		func(w *api.World) { w.Players = 9 },
		func(w *api.World) { w.Players = 2 },
		func(w *api.World) { w.NextID = 39 },
		func(w *api.World) { w.NextID = api.MaxID + 1 },
		func(w *api.World) { w.Units, w.Buildings, w.NextID = nil, nil, 0 },
		func(w *api.World) { w.Units, w.NextID = nil, 9 },
		func(w *api.World) { w.Ground.Tiles[5] = 6 },
		func(w *api.World) { w.Ground.H = 9 },
		func(w *api.World) { w.Buildings[0].W = 5 },
		func(w *api.World) { w.Buildings[1].Owner = 4 },
		func(w *api.World) { w.Buildings[0].Owner = 0 },
		func(w *api.World) { w.Buildings[1].ID = 4 },
		func(w *api.World) { w.Buildings[1].ID = 40 },
		func(w *api.World) { w.Buildings[0], w.Buildings[1] = w.Buildings[1], w.Buildings[0] },
		func(w *api.World) { w.Buildings[1].X, w.Buildings[1].Y = 1, 2 },
		func(w *api.World) { w.Units[0].ID = 0 },
		func(w *api.World) { w.Units[0].ID = -4 },
		func(w *api.World) { w.Units[10].ID = 40 },
		func(w *api.World) { w.Units[1].ID = 1 },
		func(w *api.World) { w.Units[0].ID = 2 },
		func(w *api.World) { w.Units[0], w.Units[1] = w.Units[1], w.Units[0] },
		func(w *api.World) { w.Units[0].Owner = 0 },
		func(w *api.World) { w.Units[0].Owner = 4 },
		func(w *api.World) { w.Units[0].Kind = -1 },
		func(w *api.World) { w.Units[0].Kind = 4 },
		func(w *api.World) { w.Units[1].Goal = 120 },
		func(w *api.World) { w.Units[1].Goal = -2 },
		func(w *api.World) { w.Units[1].Next = 120 },
		func(w *api.World) { w.Units[1].Next = -2 },
		func(w *api.World) { w.Units[1].Stuck = 8 },
		func(w *api.World) { w.Units[1].Stuck = -1 },
		func(w *api.World) { w.Units[1].State = api.Idle },
		func(w *api.World) { w.Units[1].State = api.Lost },
		func(w *api.World) { w.Units[0].State = api.Moving },
		func(w *api.World) { w.Units[0].State = 5 },
		func(w *api.World) { w.Units[0].State = -1 },
		func(w *api.World) { w.Units[0].Next = 5 },
		func(w *api.World) { w.Units[0].Stuck = 1 },
		func(w *api.World) { w.Units[0].Goal = 5 },
		func(w *api.World) { w.Units[0].Pos = api.Vec{X: 9 * api.One / 2, Y: api.One + 3*api.One/8 - 1} },
		func(w *api.World) {
			w.Units[1].Pos = api.Vec{X: w.Units[0].Pos.X + 7*api.One/8 - 1, Y: w.Units[0].Pos.Y}
		},
		func(w *api.World) { w.Units[0].Pos = api.Vec{X: math.MinInt64, Y: math.MaxInt64} },
		func(w *api.World) { w.Units[0].Pos = at(3, 15) },
		func(w *api.World) { w.Units[2].Pos = at(22, 7) },
		func(w *api.World) { w.Units[0].Pos = w.Units[1].Pos },
		func(w *api.World) { w.Units[6].In = 7 },
		func(w *api.World) { w.Units[6].In = 8 },
		func(w *api.World) { w.Units[6].In = 6 },
		func(w *api.World) { w.Units[6].In = 9 },
		func(w *api.World) { w.Units[6].In = 30 },
		func(w *api.World) { w.Units[6].In = -5 },
		func(w *api.World) { w.Units[6].In = 0 },
		func(w *api.World) { w.Units[6].Pos.X = 1 },
		func(w *api.World) { w.Units[6].Pos.Y = -1 },
		func(w *api.World) { w.Units[6].Goal, w.Units[6].State = 3, api.Moving },
		func(w *api.World) { w.Units[6].State = api.Arrived },
		func(w *api.World) { w.Units[6].Owner = 1 },
		func(w *api.World) { w.Units[6].Kind = 3 },
		func(w *api.World) { w.Units[5].In, w.Units[5].State, w.Units[5].Pos = 5, api.Idle, api.Vec{} },
		func(w *api.World) {
			w.Units[5] = api.Unit{ID: 7, Owner: 3, Pos: api.Vec{}, Goal: -1, Next: -1, In: 5}
		},
		func(w *api.World) { w.Units[4].In, w.Units[4].Owner, w.Units[4].Pos = 5, 3, api.Vec{} },
	} {
		w := camp()
		change(&w)
		l = append(l, w)
	}
	return l
}

// P21.1
func TestInvalid(t *testing.T) {
	for i, w := range invalid() {
		if valid(w) {
			t.Errorf("world %d is valid", i)
		}
		if e := army.Check(w); e != api.ErrForm {
			t.Errorf("Check of world %d: %d", i, e)
		}
		for _, id := range []int{1, 5, 99} {
			if u, e := army.Find(w, id); u != (api.Unit{}) || e != api.ErrForm {
				t.Errorf("Find in world %d: %v, %d", i, u, e)
			}
			if r, e := army.Riders(w, id); len(r) > 0 || e != api.ErrForm {
				t.Errorf("Riders in world %d: %v, %d", i, r, e)
			}
			if is, e := army.Place(w, id, 0, at(9, 9)); is || e != api.ErrForm {
				t.Errorf("Place in world %d: %v, %d", i, is, e)
			}
		}
	}
}

// P21.1: changes of one number, against the words of the document.
func TestChanges(t *testing.T) {
	seed := uint64(1)
	next := func(n int) int {
		seed = seed*6364136223846793005 + 1442695040888963407
		return int(seed>>33) % n
	}
	ok := 0
	for range 20000 {
		w := camp()
		u := &w.Units[next(len(w.Units))]
		switch next(9) {
		case 0:
			u.ID += next(5) - 2
		case 1:
			u.Owner = next(5)
		case 2:
			u.Kind = next(6) - 1
		case 3:
			u.Pos = api.Vec{X: int64(next(12 * api.One)), Y: int64(next(10 * api.One))}
		case 4:
			u.In = next(12) - 1
		case 5:
			u.State = next(7) - 1
		case 6:
			u.Goal = next(124) - 3
		case 7:
			b := &w.Buildings[next(2)]
			b.X, b.Y = next(12), next(10)
		case 8:
			u.In, u.Pos = next(2)*5, at(int64(next(24)), int64(next(20)))
		}
		want := api.ErrForm
		if valid(w) {
			want, ok = api.OK, ok+1
		}
		if e := army.Check(w); e != want {
			t.Fatalf("Check(%v) %d, want %d", w, e, want)
		}
	}
	if ok < 1000 {
		t.Errorf("%d valid worlds alone", ok)
	}
}

// P21.1
func TestTooMany(t *testing.T) {
	w := api.World{Players: 1, NextID: api.MaxID, Ground: api.Ground{W: 128, H: 128, Tiles: make([]byte, 1<<14)}}
	for i := range api.MaxUnits {
		w.Units = append(w.Units, api.Unit{ID: i + 1, Owner: 1, Pos: at(int64(i%100)*2+1, int64(i/100)*2+1), Goal: -1, Next: -1})
	}
	if e := army.Check(w); e != api.OK {
		t.Errorf("MaxUnits units: %d", e)
	}
	w.Units = append(w.Units, api.Unit{ID: api.MaxUnits + 1, Owner: 1, Pos: at(1, 199), Goal: -1, Next: -1})
	if e := army.Check(w); e != api.ErrForm {
		t.Errorf("one more: %d", e)
	}
}

// P21.1
func TestFind(t *testing.T) {
	w := camp()
	for _, u := range w.Units {
		if v, e := army.Find(w, u.ID); v != u || e != api.OK {
			t.Errorf("Find(%d) %v, %d", u.ID, v, e)
		}
	}
	for _, id := range []int{0, -1, 2, 9, 10, 40, math.MinInt, math.MaxInt} {
		if v, e := army.Find(w, id); v != (api.Unit{}) || e != api.ErrNone {
			t.Errorf("Find(%d) %v, %d", id, v, e)
		}
		if l, e := army.Riders(w, id); len(l) > 0 || e != api.ErrNone {
			t.Errorf("Riders(%d) %v, %d", id, l, e)
		}
	}
}

// P21.1
func TestRiders(t *testing.T) {
	for id, want := range map[int][]int{1: nil, 5: {8, 20, 21, 39}, 6: {22}, 8: nil} {
		if l, e := army.Riders(camp(), id); !slices.Equal(l, want) || e != api.OK {
			t.Errorf("Riders(%d) %v, %d, want %v", id, l, e, want)
		}
	}
}

// P21.2
func TestPlace(t *testing.T) {
	w := camp()
	seed := uint64(2)
	trues := 0
	for range 4000 {
		seed = seed*6364136223846793005 + 1442695040888963407
		p := api.Vec{X: int64(seed>>20) % (13 * api.One), Y: int64(seed>>36) % (11 * api.One)}
		if seed&1 == 1 {
			p = at(int64(seed>>20)%25, int64(seed>>40)%21)
		}
		id, k := int(seed>>8)%10, int(seed>>60)%4
		of, _ := kind.Of(k)
		want, _ := disc.Free(w.Ground, w.Buildings, of.Class, p, of.Radius)
		for _, u := range w.Units {
			if other, _ := kind.Of(u.Kind); u.In == 0 && u.ID != id && !disc.Apart(p, of.Radius, u.Pos, other.Radius) {
				want = false
			}
		}
		if is, e := army.Place(w, id, k, p); is != want || e != api.OK {
			t.Fatalf("Place(%d, %d, %v) %v, %d", id, k, p, is, e)
		}
		if want {
			trues++
		}
	}
	if trues < 400 {
		t.Errorf("%d places alone", trues)
	}
	for _, p := range []api.Vec{{X: math.MinInt64}, {Y: math.MaxInt64}, {X: 1<<40 + 1, Y: 1<<40 + 1}, {X: -1 << 40}} {
		if is, e := army.Place(w, 1, 0, p); is || e != api.OK {
			t.Errorf("Place at %v: %v, %d", p, is, e)
		}
	}
	for _, k := range []int{-1, 4, math.MinInt, math.MaxInt} {
		if is, e := army.Place(w, 1, k, at(9, 9)); is || e != api.ErrForm {
			t.Errorf("Place of kind %d: %v, %d", k, is, e)
		}
	}
}

// P21.1: the example, and that nothing changes what is handed in.
func TestSamePlace(t *testing.T) {
	w := camp()
	kept := copied(w)
	w.Units[0].Pos = w.Units[5].Pos
	if e := army.Check(w); e != api.ErrForm {
		t.Errorf("Check %d", e)
	}
	w = camp()
	army.Check(w)
	army.Riders(w, 5)
	army.Place(w, 1, 2, at(9, 9))
	if !slices.Equal(w.Units, kept.Units) || !slices.Equal(w.Buildings, kept.Buildings) || !bytes.Equal(w.Ground.Tiles, kept.Ground.Tiles) {
		t.Error("the world changed")
	}
}
