// Package tiles: the arithmetic of tiles, for callers that have checked the ground already.
package tiles

import "throng/api"

// Count is the number of neighbours of a tile.
const Count = 8

// offset is the way to a neighbour.
type offset struct{ x, y int }

// offsets are the ways to the neighbours: above, right, below, left, above right, below right, below left, above left.
var offsets = [Count]offset{{0, -1}, {1, 0}, {0, 1}, {-1, 0}, {1, -1}, {1, 1}, {-1, 1}, {-1, -1}}

// Near returns the neighbours of the tile t of w times h tiles; one that does not exist is -1.
func Near(w, h, t int) [Count]int {
	var l [Count]int
	for i, o := range offsets {
		x, y := t%w+o.x, t/w+o.y
		if x < 0 || x >= w || y < 0 || y >= h {
			l[i] = -1
			continue
		}
		l[i] = x + w*y
	}
	return l
}

// Center returns the centre of the tile t of a ground of w columns.
func Center(w, t int) api.Vec {
	return api.Vec{X: int64(t%w)*api.One + api.One/2, Y: int64(t/w)*api.One + api.One/2}
}

// Of returns the tile that contains the point p, which must lie on a ground of w columns.
func Of(w int, p api.Vec) int {
	return int(p.X/api.One) + w*int(p.Y/api.One)
}
