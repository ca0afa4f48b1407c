package move_test

import (
	"bytes"
	"slices"

	"throng/api"
	"throng/apply"
	"throng/army"
	"throng/copies"
	"throng/field"
	"throng/ground"
	"throng/kind"
	"throng/steer"
	"throng/vec"
)

// The model does what the document says, word by word, by exported calls alone.

func of(k int) api.Kind {
	r, _ := kind.Of(k)
	return r
}

// modelTry moves unit i of w.
func modelTry(w api.World, i int, v api.Vec) (api.World, int) {
	w = copies.World(w)
	u := &w.Units[i]
	for k, n := range []int64{1, 2, 4, 8, 16} {
		s := api.Vec{X: max(v.X, -api.Most) / n, Y: max(v.Y, -api.Most) / n}
		if s == (api.Vec{}) {
			return w, 5
		}
		p := vec.Add(u.Pos, s)
		if is, _ := army.Place(w, u.ID, u.Kind, p); is {
			u.Pos = p
			return w, k
		}
	}
	return w, 5
}

// modelUnit performs one move of unit i of w.
func modelUnit(w api.World, i int) api.World {
	w = copies.World(w)
	u := &w.Units[i]
	k := of(u.Kind)
	if u.Goal == -1 {
		sum := api.Vec{}
		for _, o := range w.Units {
			if o.ID != u.ID && o.In == 0 {
				sum = vec.Add(sum, steer.Apart(u.Pos, k.Radius+of(o.Kind).Radius+api.Gap, []api.Vec{o.Pos}))
			}
		}
		if v := vec.Clamp(sum, k.Speed/4); v != (api.Vec{}) {
			w, _ = modelTry(w, i, v)
		}
		return w
	}
	center := func(t int) api.Vec {
		p, _ := ground.Center(w.Ground, t)
		return p
	}
	own, _ := ground.Of(w.Ground, u.Pos)
	near, _ := ground.Near(w.Ground, own)
	if u.Pos == center(u.Goal) {
		u.Goal, u.Next, u.Stuck, u.State = -1, -1, 0, api.Arrived
		return w
	}
	good, _ := field.Good(w.Ground, w.Buildings, k.Class, k.Size)
	if u.Next == -1 || u.Pos == center(u.Next) || !good[u.Next] || u.Next != own && !slices.Contains(near, u.Next) {
		if u.Pos != center(own) {
			u.Next = own
		} else {
			dirs, _ := field.Dirs(w.Ground, w.Buildings, k.Class, k.Size, u.Goal)
			if dirs[own] == -1 {
				u.Goal, u.Next, u.Stuck, u.State = -1, -1, 0, api.Lost
				return w
			}
			u.Next = near[dirs[own]]
		}
	}
	w, tried := modelTry(w, i, steer.Toward(u.Pos, center(u.Next), k.Speed))
	u = &w.Units[i]
	if tried < 5 {
		u.Stuck = 0
		return w
	}
	u.Stuck++
	u.Next = -1
	if u.Stuck == api.MaxWait {
		u.Goal, u.Stuck, u.State = -1, 0, api.GaveUp
	}
	return w
}

// modelAll performs one move of every unit on the field.
func modelAll(w api.World) api.World {
	for i, u := range w.Units {
		if u.In == 0 {
			w = modelUnit(w, i)
		}
	}
	return w
}

func equal(a, b api.World) bool {
	return a.Tick == b.Tick && a.Players == b.Players && a.NextID == b.NextID && a.Ground.W == b.Ground.W && a.Ground.H == b.Ground.H &&
		bytes.Equal(a.Ground.Tiles, b.Ground.Tiles) && slices.Equal(a.Buildings, b.Buildings) && slices.Equal(a.Units, b.Units)
}

// dice is a source of numbers without a pattern.
type dice uint64

func (d *dice) roll(n int) int {
	*d = *d*6364136223846793005 + 1442695040888963407
	return int(*d>>33) % n
}

// some returns a world with units of all kinds on their ways, some of them in carriers, and with buildings.
func some(w, h int, d *dice) api.World {
	g := api.Ground{W: w, H: h, Tiles: make([]byte, w*h)}
	for i := range g.Tiles {
		if r := d.roll(14); r < 6 {
			g.Tiles[i] = byte(r)
		}
	}
	x := api.World{Players: 2, NextID: 1, Ground: g}
	for range w * h {
		x = command(x, d)
	}
	return x
}

// command executes a command without a pattern, if it is not refused.
func command(w api.World, d *dice) api.World {
	c := api.Command{Player: 1 + d.roll(2), Kind: 1 + d.roll(7)}
	if d.roll(3) == 0 {
		c.Kind = api.CmdSpawn + d.roll(2)
	}
	tile, id := d.roll(w.Ground.W*w.Ground.H), 1+d.roll(w.NextID)
	switch c.Kind {
	case api.CmdSpawn:
		c.N, c.At = d.roll(4), api.Vec{X: int64(d.roll(w.Ground.W * api.One)), Y: int64(d.roll(w.Ground.H * api.One))}
		if d.roll(2) == 0 {
			c.At, _ = ground.Center(w.Ground, tile)
		}
	case api.CmdMove:
		c.Units, c.Tile = []int{id, id + 1 + d.roll(3)}[:1+d.roll(2)], tile
	case api.CmdStop:
		c.Units = []int{id}
	case api.CmdBuild:
		c.Tile, c.W, c.H = tile, 1+d.roll(2), 1+d.roll(2)
	case api.CmdDrop, api.CmdUnload:
		c.N = id
		if c.Kind == api.CmdUnload {
			c.Tile = tile
		}
	case api.CmdLoad:
		c.N, c.Units = id, []int{1 + d.roll(w.NextID)}
	}
	if x, e := apply.Apply(w, c); e == api.OK {
		return x
	}
	return w
}
