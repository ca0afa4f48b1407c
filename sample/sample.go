// Package sample: grounds and commands without a pattern, for tests. They are the same in every run.
package sample

import (
	"bytes"
	"slices"

	"throng/api"
)

// Dice is a source of numbers. It begins with any value.
type Dice uint64

// Roll returns a number from 0 to n - 1.
func (d *Dice) Roll(n int) int {
	*d = *d*6364136223846793005 + 1442695040888963407
	return int(*d>>33) % n
}

// Point returns a point on a ground of w times h tiles.
func (d *Dice) Point(w, h int) api.Vec {
	return api.Vec{X: int64(d.Roll(w * api.One)), Y: int64(d.Roll(h * api.One))}
}

// Ground returns a ground in which about 6 of so many tiles have any terrain; the others are plain.
func Ground(w, h int, d *Dice, of int) api.Ground {
	g := api.Ground{W: w, H: h, Tiles: make([]byte, w*h)}
	for t := range g.Tiles {
		if terrain := d.Roll(of); terrain <= api.Rock {
			g.Tiles[t] = byte(terrain)
		}
	}
	return g
}

// Buildings returns buildings of one tile on every tile whose rest by every is rest, if it can carry one.
func Buildings(g api.Ground, every, rest int) []api.Building {
	var l []api.Building
	for t, terrain := range g.Tiles {
		if t%every == rest && terrain <= api.Road && len(l) < api.MaxBuilt {
			l = append(l, api.Building{ID: t + 1, Owner: 1, X: t % g.W, Y: t / g.W, W: 1, H: 1})
		}
	}
	return l
}

// Command returns a command of one of the players of w, which is often executed, and often refused.
func Command(w api.World, d *Dice) api.Command {
	tiles := len(w.Ground.Tiles)
	c := api.Command{Player: 1 + d.Roll(w.Players), Seq: d.Roll(100), Kind: api.CmdSpawn + d.Roll(7)}
	if d.Roll(2) == 0 {
		c.Kind = api.CmdSpawn + d.Roll(2)
	}
	id := 1 + d.Roll(w.NextID)
	switch c.Kind {
	case api.CmdSpawn:
		c.N, c.At = d.Roll(api.Kinds), d.Point(w.Ground.W, w.Ground.H)
	case api.CmdMove:
		c.Units, c.Tile = []int{id, id + 1 + d.Roll(3)}[:1+d.Roll(2)], d.Roll(tiles+1)
	case api.CmdStop:
		c.Units = []int{id}
	case api.CmdBuild:
		c.Tile, c.W, c.H = d.Roll(tiles+1), 1+d.Roll(2), 1+d.Roll(2)
	case api.CmdDrop:
		c.N = id
	case api.CmdLoad:
		c.N, c.Units = id, []int{1 + d.Roll(w.NextID)}
	case api.CmdUnload:
		c.N, c.Tile = id, d.Roll(tiles+1)
	}
	return c
}

// SameWorld reports whether a and b are equal.
func SameWorld(a, b api.World) bool {
	return a.Tick == b.Tick && a.Players == b.Players && a.NextID == b.NextID && a.Ground.W == b.Ground.W && a.Ground.H == b.Ground.H &&
		bytes.Equal(a.Ground.Tiles, b.Ground.Tiles) && slices.Equal(a.Buildings, b.Buildings) && slices.Equal(a.Units, b.Units)
}

// SameCommands reports whether a and b are equal.
func SameCommands(a, b []api.Command) bool { return slices.EqualFunc(a, b, SameCommand) }

// SameCommand reports whether a and b are equal.
func SameCommand(a, b api.Command) bool {
	return a.Player == b.Player && a.Seq == b.Seq && a.Kind == b.Kind && a.N == b.N && slices.Equal(a.Units, b.Units) &&
		a.Tile == b.Tile && a.W == b.W && a.H == b.H && a.At == b.At
}
