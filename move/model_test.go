package move_test

import (
	"slices"

	"throng/api"
	"throng/apply"
	"throng/army"
	"throng/copies"
	"throng/field"
	"throng/ground"
	"throng/kind"
	"throng/sample"
	"throng/steer"
	"throng/vec"
)

// The model does what the document says, word by word, by exported calls alone.

func of(k int) api.Kind {
	r, _ := kind.Of(k)
	return r
}

// modelTry moves unit i of w.
func modelTry(w api.World, i int, v api.Vec) (api.World, int) {
	w = copies.World(w)
	u := &w.Units[i]
	for k, n := range []int64{1, 2, 4, 8, 16} {
		s := api.Vec{X: max(v.X, -api.Most) / n, Y: max(v.Y, -api.Most) / n}
		if s == (api.Vec{}) {
			return w, 5
		}
		p := vec.Add(u.Pos, s)
		if is, _ := army.Place(w, u.ID, u.Kind, p); is {
			u.Pos = p
			return w, k
		}
	}
	return w, 5
}

// modelUnit performs one move of unit i of w.
func modelUnit(w api.World, i int) api.World {
	w = copies.World(w)
	u := &w.Units[i]
	k := of(u.Kind)
	if u.Goal == -1 {
		sum := api.Vec{}
		for _, o := range w.Units {
			if o.ID != u.ID && o.In == 0 {
				sum = vec.Add(sum, steer.Apart(u.Pos, k.Radius+of(o.Kind).Radius+api.Gap, []api.Vec{o.Pos}))
			}
		}
		if v := vec.Clamp(sum, k.Speed/4); v != (api.Vec{}) {
			w, _ = modelTry(w, i, v)
		}
		return w
	}
	center := func(t int) api.Vec {
		p, _ := ground.Center(w.Ground, t)
		return p
	}
	own, _ := ground.Of(w.Ground, u.Pos)
	near, _ := ground.Near(w.Ground, own)
	if u.Pos == center(u.Goal) {
		u.Goal, u.Next, u.Stuck, u.State = -1, -1, 0, api.Arrived
		return w
	}
	good, _ := field.Good(w.Ground, w.Buildings, k.Class, k.Size)
	if u.Next == -1 || u.Pos == center(u.Next) || !good[u.Next] || u.Next != own && !slices.Contains(near, u.Next) {
		if u.Pos != center(own) {
			u.Next = own
		} else {
			dirs, _ := field.Dirs(w.Ground, w.Buildings, k.Class, k.Size, u.Goal)
			if dirs[own] == -1 {
				u.Goal, u.Next, u.Stuck, u.State = -1, -1, 0, api.Lost
				return w
			}
			u.Next = near[dirs[own]]
		}
	}
	w, tried := modelTry(w, i, steer.Toward(u.Pos, center(u.Next), k.Speed))
	u = &w.Units[i]
	if tried < 5 {
		u.Stuck = 0
		return w
	}
	u.Stuck++
	u.Next = -1
	if u.Stuck == api.MaxWait {
		u.Goal, u.Stuck, u.State = -1, 0, api.GaveUp
	}
	return w
}

// modelAll performs one move of every unit on the field.
func modelAll(w api.World) api.World {
	for i, u := range w.Units {
		if u.In == 0 {
			w = modelUnit(w, i)
		}
	}
	return w
}

// some returns a world with units of all kinds on their ways, some of them in carriers, and with buildings.
func some(w, h int, d *sample.Dice) api.World {
	x := api.World{Players: 2, NextID: 1, Ground: sample.Ground(w, h, d, 14)}
	for range w * h {
		x = command(x, d)
	}
	return x
}

// command executes a command without a pattern, if it is not refused.
func command(w api.World, d *sample.Dice) api.World {
	c := sample.Command(w, d)
	if c.Kind == api.CmdSpawn && d.Roll(2) == 0 {
		c.At, _ = ground.Center(w.Ground, d.Roll(len(w.Ground.Tiles)))
	}
	if x, e := apply.Apply(w, c); e == api.OK {
		return x
	}
	return w
}
