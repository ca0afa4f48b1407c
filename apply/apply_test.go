package apply_test

import (
	"slices"
	"testing"

	"throng/api"
	"throng/apply"
	"throng/army"
	"throng/build"
	"throng/copies"
	"throng/kind"
	"throng/sample"
	"throng/slots"
	"throng/tiles"
)

// at returns the centre of the tile in column x and row y.
func at(x, y int64) api.Vec {
	return api.Vec{X: x*api.One + api.One/2, Y: y*api.One + api.One/2}
}

// camp returns a valid world of 12 times 10 tiles: a building of player 1 (ID 2) and one of player 3 (ID 9), a soldier (1), a wagon (3), two carriers (6 and 10) and a giant (11) of player 1, a carrier (5) with three riders (8, 20, 21) and a soldier (7) of player 3.
func camp() api.World {
	g := api.Ground{W: 12, H: 10, Tiles: make([]byte, 120)}
	for x := range 12 {
		g.Tiles[x] = byte(x % 6)
	}
	unit := func(id, owner, k int, p api.Vec, in int) api.Unit {
		return api.Unit{ID: id, Owner: owner, Kind: k, Pos: p, Goal: -1, Next: -1, In: in}
	}
	w := api.World{Tick: 7, Players: 3, NextID: 40, Ground: g,
		Buildings: []api.Building{{ID: 2, Owner: 1, X: 1, Y: 7, W: 2, H: 3}, {ID: 9, Owner: 3, X: 5, Y: 8, W: 1, H: 1}}}
	w.Units = []api.Unit{unit(1, 1, 0, at(1, 2), 0), unit(3, 1, 1, at(3, 2), 0), unit(5, 3, 3, at(7, 8), 0), unit(6, 1, 3, at(1, 4), 0), unit(7, 3, 0, at(8, 8), 0),
		unit(8, 3, 0, api.Vec{}, 5), unit(10, 1, 3, at(3, 4), 0), unit(11, 1, 2, at(9, 4), 0), unit(20, 3, 1, api.Vec{}, 5), unit(21, 3, 0, api.Vec{}, 5)}
	w.Units[1].Goal, w.Units[1].Next, w.Units[1].Stuck, w.Units[1].State = 119, 28, 7, api.Moving
	w.Units[4].State = api.Lost
	return w
}

// done executes c, and asks whether the new world is want.
func done(t *testing.T, w api.World, c api.Command, want api.World) {
	t.Helper()
	kept := copies.World(w)
	got, e := apply.Apply(w, c)
	if e != api.OK || !sample.SameWorld(got, want) {
		t.Errorf("Apply(%v) %d, %v, want %v", c, e, got, want)
	}
	if army.Check(got) != api.OK {
		t.Errorf("Apply(%v): the world is not valid", c)
	}
	if clear(got.Units); !sample.SameWorld(w, kept) {
		t.Errorf("Apply(%v) changed what it was given", c)
	}
}

// refused asks for an error.
func refused(t *testing.T, w api.World, c api.Command, want api.Errno) {
	t.Helper()
	kept := copies.World(w)
	if got, e := apply.Apply(w, c); e != want || !sample.SameWorld(got, api.World{}) || !sample.SameWorld(w, kept) {
		t.Errorf("Apply(%v) %d, want %d", c, e, want)
	}
}

// P23.1
func TestForm(t *testing.T) {
	w := camp()
	refused(t, w, api.Command{}, api.ErrForm)
	refused(t, w, api.Command{Kind: api.CmdStop, Player: 1}, api.ErrForm)
	refused(t, w, api.Command{Kind: api.CmdStop, Player: 4, Units: []int{99}}, api.ErrForm)
	refused(t, w, api.Command{Kind: api.CmdStop, Player: 0, Units: []int{1}}, api.ErrForm)
	refused(t, w, api.Command{Kind: api.CmdSpawn, Player: 1, N: 4, At: at(5, 5)}, api.ErrForm)
	w.Units[0].Pos = w.Units[1].Pos
	refused(t, w, api.Command{Kind: api.CmdStop, Player: 1, Units: []int{1}}, api.ErrForm)
	refused(t, api.World{}, api.Command{Kind: api.CmdStop, Player: 1, Units: []int{1}}, api.ErrForm)
}

// P23.1
func TestSpawn(t *testing.T) {
	for k := range api.Kinds {
		want := camp()
		want.Units = append(want.Units, api.Unit{ID: 40, Owner: 2, Kind: k, Pos: at(6, 5), Goal: -1, Next: -1})
		want.NextID = 41
		done(t, camp(), api.Command{Kind: api.CmdSpawn, Player: 2, Seq: 5, N: k, At: at(6, 5)}, want)
	}
	for _, p := range []api.Vec{at(1, 2), at(1, 8), at(5, 0), at(-1, 3), {X: 1 << 40, Y: -1 << 40}, {X: 12*api.One - 3*api.One/8 + 1, Y: 5 * api.One}} {
		refused(t, camp(), api.Command{Kind: api.CmdSpawn, Player: 2, At: p}, api.ErrBlocked)
	}
	w := camp()
	w.NextID = api.MaxID
	refused(t, w, api.Command{Kind: api.CmdSpawn, Player: 2, At: at(1, 2)}, api.ErrFull)
	w.NextID--
	if x, e := apply.Apply(w, api.Command{Kind: api.CmdSpawn, Player: 2, At: at(6, 5)}); e != api.OK || x.NextID != api.MaxID || x.Units[len(w.Units)].ID != api.MaxID-1 {
		t.Errorf("the last ID: %d", e)
	}
}

// P23.1
func TestSpawnTooMany(t *testing.T) {
	w := api.World{Players: 1, NextID: 5000, Ground: api.Ground{W: 128, H: 128, Tiles: make([]byte, 1<<14)}}
	for i := range api.MaxUnits {
		w.Units = append(w.Units, api.Unit{ID: i + 1, Owner: 1, Pos: at(int64(i)%100, int64(i)/100), Goal: -1, Next: -1})
	}
	refused(t, w, api.Command{Kind: api.CmdSpawn, Player: 1, At: at(120, 120)}, api.ErrFull)
	w.Units = w.Units[1:]
	if x, e := apply.Apply(w, api.Command{Kind: api.CmdSpawn, Player: 1, At: at(120, 120)}); e != api.OK || len(x.Units) != api.MaxUnits {
		t.Errorf("the last unit: %d", e)
	}
}

// P23.1
func TestMove(t *testing.T) {
	for _, c := range []struct {
		tile  int
		units []int
	}{{66, []int{1}}, {66, []int{1, 3, 6, 10, 11}}, {0, []int{3, 6, 11}}, {5, []int{1, 11}}, {97, []int{1, 10}}, {119, []int{11}}} {
		w := camp()
		want := camp()
		for i, id := range c.units {
			u := &want.Units[slices.IndexFunc(want.Units, func(u api.Unit) bool { return u.ID == id })]
			of, _ := kind.Of(u.Kind)
			l, _ := slots.Find(w.Ground, w.Buildings, of.Class, of.Size, c.tile, len(c.units))
			u.Goal, u.Next, u.Stuck, u.State = c.tile, -1, 0, api.Moving
			if i < len(l) {
				u.Goal = l[i]
			}
		}
		done(t, w, api.Command{Kind: api.CmdMove, Player: 1, Units: c.units, Tile: c.tile}, want)
	}
	refused(t, camp(), api.Command{Kind: api.CmdMove, Player: 1, Units: []int{99}, Tile: 120}, api.ErrNone)
	if _, e := apply.Apply(camp(), api.Command{Kind: api.CmdMove, Player: 1, Units: []int{1}, Tile: 119}); e != api.OK {
		t.Errorf("the last tile: %d", e)
	}
	unitsRefused(t, api.Command{Kind: api.CmdMove, Tile: 3})
}

// P23.1: where no tile is good for a kind, all go to the tile itself.
func TestMoveWithoutPlaces(t *testing.T) {
	w := api.World{Players: 1, NextID: 3, Ground: api.Ground{W: 3, H: 1, Tiles: []byte{api.Plain, api.Road, api.Rock}}}
	w.Units = []api.Unit{{ID: 1, Owner: 1, Pos: at(0, 0), Goal: -1, Next: -1}, {ID: 2, Owner: 1, Pos: at(1, 0), Goal: -1, Next: -1}}
	for _, tile := range []int{0, 1, 2} {
		x, e := apply.Apply(w, api.Command{Kind: api.CmdMove, Player: 1, Units: []int{1, 2}, Tile: tile})
		want := [][2]int{{0, 1}, {1, 0}, {1, 0}}[tile]
		if e != api.OK || x.Units[0].Goal != want[0] || x.Units[1].Goal != want[1] {
			t.Errorf("to %d: %v, %d", tile, x.Units, e)
		}
	}
	w.Units = nil
	w.Ground = api.Ground{W: 3, H: 3, Tiles: []byte{0, 0, 0, 0, 0, 0, 0, 0, 0}}
	w.Units = []api.Unit{{ID: 1, Owner: 1, Kind: 2, Pos: at(1, 1), Goal: -1, Next: -1}}
	if x, e := apply.Apply(w, api.Command{Kind: api.CmdMove, Player: 1, Units: []int{1}, Tile: 2}); e != api.OK || x.Units[0].Goal != 2 || x.Units[0].State != api.Moving {
		t.Errorf("a giant to a corner: %v, %d", x.Units, e)
	}
}

// unitsRefused asks for the errors of the checks of Units.
func unitsRefused(t *testing.T, c api.Command) {
	t.Helper()
	for _, x := range []struct {
		player int
		units  []int
		want   api.Errno
	}{{1, []int{2}, api.ErrNone}, {1, []int{4}, api.ErrNone}, {1, []int{40}, api.ErrNone}, {1, []int{7}, api.ErrOwner}, {1, []int{8}, api.ErrOwner}, {3, []int{8}, api.ErrAway},
		{3, []int{8, 99}, api.ErrAway}, {3, []int{7, 8}, api.ErrAway}, {1, []int{1, 4, 7}, api.ErrNone}, {1, []int{1, 7, 99}, api.ErrOwner}, {2, []int{1, 99}, api.ErrOwner}} {
		c.Player, c.Units = x.player, x.units
		refused(t, camp(), c, x.want)
	}
}

// P23.1
func TestStop(t *testing.T) {
	want := camp()
	want.Units[1].Goal, want.Units[1].Next, want.Units[1].Stuck, want.Units[1].State = -1, -1, 0, api.Idle
	done(t, camp(), api.Command{Kind: api.CmdStop, Player: 1, Units: []int{1, 3, 6}}, want)
	want = camp()
	want.Units[4].State = api.Idle
	done(t, camp(), api.Command{Kind: api.CmdStop, Player: 3, Units: []int{7}}, want)
	unitsRefused(t, api.Command{Kind: api.CmdStop})
}

// P23.1
func TestBuild(t *testing.T) {
	w := camp()
	for _, b := range []api.Building{{X: 4, Y: 5, W: 4, H: 2}, {X: 0, Y: 0, W: 1, H: 1}, {X: 2, Y: 3, W: 1, H: 1}, {X: 10, Y: 7, W: 2, H: 3}} {
		b.ID, b.Owner = 40, 2
		want := camp()
		want.Buildings, _ = build.Add(w.Ground, w.Buildings, b)
		want.NextID = 41
		done(t, w, api.Command{Kind: api.CmdBuild, Player: 2, Tile: b.X + 12*b.Y, W: b.W, H: b.H}, want)
	}
	for _, c := range []struct {
		tile, w, h int
		want       api.Errno
	}{{120, 1, 1, api.ErrNone}, {119, 2, 1, api.ErrNone}, {119, 1, 2, api.ErrNone}, {11, 4, 4, api.ErrNone}, {86, 1, 1, api.ErrOverlap}, {96, 4, 2, api.ErrOverlap},
		{2, 1, 1, api.ErrBlocked}, {1, 4, 1, api.ErrBlocked}, {25, 1, 1, api.ErrBlocked}, {12, 2, 2, api.ErrBlocked}, {44, 1, 1, api.ErrBlocked}, {56, 1, 1, api.ErrBlocked}} {
		refused(t, w, api.Command{Kind: api.CmdBuild, Player: 2, Tile: c.tile, W: c.w, H: c.h}, c.want)
	}
	w.NextID = api.MaxID
	refused(t, w, api.Command{Kind: api.CmdBuild, Player: 2, Tile: 120, W: 1, H: 1}, api.ErrNone)
	refused(t, w, api.Command{Kind: api.CmdBuild, Player: 2, Tile: 86, W: 1, H: 1}, api.ErrFull)
}

// P23.1: a disc that touches the border of a tile does not meet it; riders are in nobody's way.
func TestBuildBesideUnits(t *testing.T) {
	w := camp()
	w.Units[0].Pos.X = 2*api.One - 3*api.One/8
	c := api.Command{Kind: api.CmdBuild, Player: 2, Tile: 26, W: 1, H: 1}
	if _, e := apply.Apply(w, c); e != api.OK {
		t.Errorf("beside a unit: %d", e)
	}
	w.Units[0].Pos.X++
	refused(t, w, c, api.ErrBlocked)
	w = camp()
	w.Ground.Tiles[0] = api.Plain
	if _, e := apply.Apply(w, api.Command{Kind: api.CmdBuild, Player: 2, W: 1, H: 1}); e != api.OK {
		t.Errorf("at the place of riders: %d", e)
	}
}

// P23.1
func TestBuildTooMany(t *testing.T) {
	w := api.World{Players: 1, NextID: 300, Ground: api.Ground{W: 128, H: 3, Tiles: make([]byte, 384)}}
	for i := range api.MaxBuilt {
		w.Buildings = append(w.Buildings, api.Building{ID: i + 1, Owner: 1, X: i % 128, Y: i / 128, W: 1, H: 1})
	}
	refused(t, w, api.Command{Kind: api.CmdBuild, Player: 1, Tile: 256, W: 1, H: 1}, api.ErrFull)
	refused(t, w, api.Command{Kind: api.CmdBuild, Player: 1, Tile: 255, W: 1, H: 1}, api.ErrOverlap)
}

// P23.1
func TestDrop(t *testing.T) {
	want := camp()
	want.Buildings = want.Buildings[1:]
	done(t, camp(), api.Command{Kind: api.CmdDrop, Player: 1, N: 2}, want)
	want.Buildings = camp().Buildings[:1]
	done(t, camp(), api.Command{Kind: api.CmdDrop, Player: 3, N: 9}, want)
	refused(t, camp(), api.Command{Kind: api.CmdDrop, Player: 1, N: 9}, api.ErrOwner)
	refused(t, camp(), api.Command{Kind: api.CmdDrop, Player: 3, N: 2}, api.ErrOwner)
	for _, n := range []int{1, 3, 5, 40, api.MaxID} {
		refused(t, camp(), api.Command{Kind: api.CmdDrop, Player: 1, N: n}, api.ErrNone)
	}
}

// carrierRefused asks for the errors of the checks of the carrier.
func carrierRefused(t *testing.T, c api.Command) {
	t.Helper()
	for _, x := range []struct {
		player, n int
		want      api.Errno
	}{{1, 2, api.ErrNone}, {1, 4, api.ErrNone}, {1, 40, api.ErrNone}, {1, 5, api.ErrOwner}, {3, 6, api.ErrOwner}, {1, 7, api.ErrOwner}, {1, 8, api.ErrOwner}, {3, 8, api.ErrAway}, {1, 1, api.ErrKind}, {3, 7, api.ErrKind}, {1, 11, api.ErrKind}} {
		c.Player, c.N = x.player, x.n
		refused(t, camp(), c, x.want)
	}
}

// P23.1
func TestLoad(t *testing.T) {
	w := camp()
	w.Units[0].State = api.Arrived
	want := camp()
	for _, i := range []int{0, 1} {
		u := &want.Units[i]
		u.In, u.Pos, u.Goal, u.Next, u.Stuck, u.State = 10, api.Vec{}, -1, -1, 0, api.Idle
	}
	w.Units[0].Pos = at(2, 3)
	done(t, w, api.Command{Kind: api.CmdLoad, Player: 1, N: 10, Units: []int{1, 3}}, want)
	want = camp()
	want.Units[4] = api.Unit{ID: 7, Owner: 3, Goal: -1, Next: -1, In: 5}
	done(t, camp(), api.Command{Kind: api.CmdLoad, Player: 3, N: 5, Units: []int{7}}, want)
	carrierRefused(t, api.Command{Kind: api.CmdLoad, Units: []int{99}})
	for _, c := range []struct {
		player, n int
		units     []int
		want      api.Errno
	}{{1, 6, []int{1, 99}, api.ErrNone}, {1, 6, []int{7}, api.ErrOwner}, {3, 5, []int{8}, api.ErrAway}, {1, 6, []int{10, 99}, api.ErrKind}, {1, 6, []int{6}, api.ErrKind},
		{1, 6, []int{3, 99}, api.ErrFar}, {1, 10, []int{3, 11, 99}, api.ErrFar}, {1, 6, []int{1, 4}, api.ErrNone}} {
		refused(t, camp(), api.Command{Kind: api.CmdLoad, Player: c.player, N: c.n, Units: c.units}, c.want)
	}
}

// P23.1
func TestReach(t *testing.T) {
	w := camp()
	w.Units[0].Pos = api.Vec{X: w.Units[3].Pos.X, Y: w.Units[3].Pos.Y - api.Reach}
	if _, e := apply.Apply(w, api.Command{Kind: api.CmdLoad, Player: 1, N: 6, Units: []int{1}}); e != api.OK {
		t.Errorf("at the edge of the reach: %d", e)
	}
	w.Units[0].Pos.Y--
	refused(t, w, api.Command{Kind: api.CmdLoad, Player: 1, N: 6, Units: []int{1}}, api.ErrFar)
}

// P23.1
func TestLoadTooMany(t *testing.T) {
	w := camp()
	w.Units = append(w.Units, api.Unit{ID: 30, Owner: 3, Pos: at(7, 7), Goal: -1, Next: -1})
	refused(t, w, api.Command{Kind: api.CmdLoad, Player: 3, N: 5, Units: []int{7, 30}}, api.ErrFull)
	x, e := apply.Apply(w, api.Command{Kind: api.CmdLoad, Player: 3, N: 5, Units: []int{30}})
	if e != api.OK || x.Units[len(x.Units)-1].In != 5 {
		t.Fatalf("the last one: %d", e)
	}
	refused(t, x, api.Command{Kind: api.CmdLoad, Player: 3, N: 5, Units: []int{7}}, api.ErrFull)
}

// P23.1
func TestUnload(t *testing.T) {
	for _, tile := range []int{7 + 12*8, 5 + 12*8, 7 + 12*6, 9 + 12*8, 9 + 12*9} {
		w := camp()
		want := camp()
		for _, i := range []int{5, 8, 9} {
			u := &want.Units[i]
			of, _ := kind.Of(u.Kind)
			l, _ := slots.Find(w.Ground, w.Buildings, of.Class, of.Size, tile, api.MaxList)
			for _, s := range l {
				if p := tiles.Center(12, s); u.In > 0 {
					if is, _ := army.Place(want, u.ID, u.Kind, p); is {
						u.In, u.Pos = 0, p
					}
				}
			}
		}
		if dist := tile%12 - 7; dist == 2 && tile > 108 {
			refused(t, w, api.Command{Kind: api.CmdUnload, Player: 3, N: 5, Tile: tile}, api.ErrFar)
			continue
		}
		done(t, w, api.Command{Kind: api.CmdUnload, Player: 3, N: 5, Tile: tile}, want)
	}
	done(t, camp(), api.Command{Kind: api.CmdUnload, Player: 1, N: 6, Tile: 49}, camp())
	carrierRefused(t, api.Command{Kind: api.CmdUnload, Tile: 120})
	refused(t, camp(), api.Command{Kind: api.CmdUnload, Player: 3, N: 5, Tile: 120}, api.ErrNone)
	refused(t, camp(), api.Command{Kind: api.CmdUnload, Player: 3, N: 5, Tile: 7 + 12*5}, api.ErrFar)
	refused(t, camp(), api.Command{Kind: api.CmdUnload, Player: 1, N: 6, Tile: 119}, api.ErrFar)
}

// P23.1: when one of the riders finds no place, all stay.
func TestUnloadBlocked(t *testing.T) {
	w := api.World{Players: 1, NextID: 9, Ground: api.Ground{W: 3, H: 1, Tiles: []byte{api.Plain, api.Plain, api.Water}}}
	w.Units = []api.Unit{{ID: 1, Owner: 1, Kind: 3, Pos: at(2, 0), Goal: -1, Next: -1}, {ID: 2, Owner: 1, Goal: -1, Next: -1, In: 1}, {ID: 3, Owner: 1, Goal: -1, Next: -1, In: 1}, {ID: 4, Owner: 1, Goal: -1, Next: -1, In: 1}}
	refused(t, w, api.Command{Kind: api.CmdUnload, Player: 1, N: 1, Tile: 1}, api.ErrBlocked)
	w.Units = w.Units[:3]
	want := copies.World(w)
	want.Units[1].In, want.Units[1].Pos = 0, at(1, 0)
	want.Units[2].In, want.Units[2].Pos = 0, at(0, 0)
	done(t, w, api.Command{Kind: api.CmdUnload, Player: 1, N: 1, Tile: 1}, want)
}

// P23.2
func TestStaysValid(t *testing.T) {
	w := camp()
	took := map[int]int{}
	d := sample.Dice(20)
	for range 20000 {
		c := sample.Command(w, &d)
		kept := copies.World(w)
		x, e := apply.Apply(w, c)
		if !sample.SameWorld(w, kept) {
			t.Fatalf("Apply(%v) changed what it was given", c)
		}
		if e != api.OK {
			if !sample.SameWorld(x, api.World{}) {
				t.Fatalf("Apply(%v) %d with a world", c, e)
			}
			continue
		}
		if took[c.Kind]++; army.Check(x) != api.OK {
			t.Fatalf("Apply(%v): the world is not valid", c)
		}
		w = x
	}
	for k := api.CmdSpawn; k <= api.CmdUnload; k++ {
		if took[k] == 0 {
			t.Errorf("no command of kind %d was executed: %v", k, took)
		}
	}
}

// P23.1: the example.
func TestExample(t *testing.T) {
	c := api.Command{Kind: api.CmdSpawn, Player: 1, At: at(6, 5)}
	w, e := apply.Apply(camp(), c)
	if e != api.OK {
		t.Fatalf("the first one: %d", e)
	}
	refused(t, w, c, api.ErrBlocked)
}
