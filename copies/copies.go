// Package copies: copies of plain data that share nothing with what they were made of.
package copies

import (
	"bytes"
	"slices"

	"throng/api"
)

// Ground returns a copy of g.
func Ground(g api.Ground) api.Ground {
	g.Tiles = bytes.Clone(g.Tiles)
	return g
}

// World returns a copy of w.
func World(w api.World) api.World {
	w.Ground = Ground(w.Ground)
	w.Buildings = slices.Clone(w.Buildings)
	w.Units = slices.Clone(w.Units)
	return w
}

// Commands returns a copy of l.
func Commands(l []api.Command) []api.Command {
	l = slices.Clone(l)
	for i := range l {
		l[i].Units = slices.Clone(l[i].Units)
	}
	return l
}

// Input returns a copy of i.
func Input(i api.Input) api.Input {
	i.Commands = Commands(i.Commands)
	return i
}

// Inputs returns a copy of l.
func Inputs(l []api.Input) []api.Input {
	l = slices.Clone(l)
	for i := range l {
		l[i] = Input(l[i])
	}
	return l
}

// Peer returns a copy of p.
func Peer(p api.Peer) api.Peer {
	p.Mine = Inputs(p.Mine)
	p.Inputs = Inputs(p.Inputs)
	p.Has = slices.Clone(p.Has)
	p.Acked = slices.Clone(p.Acked)
	p.Hashes = slices.Clone(p.Hashes)
	return p
}
