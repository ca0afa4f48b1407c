// Package tiles: the arithmetic of tiles, for callers that have checked the ground already.
package tiles

import "throng/api"

// Count is the number of neighbours of a tile.
const Count = 8

// offset is the way to a neighbour.
type offset struct{ x, y int }

// offsets are the ways to the neighbours: above, right, below, left, above right, below right, below left, above left.
var offsets = [Count]offset{{0, -1}, {1, 0}, {0, 1}, {-1, 0}, {1, -1}, {1, 1}, {-1, 1}, {-1, -1}}

// Near returns the neighbours of the tile t of w times h tiles; one that does not exist is -1.
func Near(w, h, t int) [Count]int {
	var l [Count]int
	for i, o := range offsets {
		x, y := t%w+o.x, t/w+o.y
		if x < 0 || x >= w || y < 0 || y >= h {
			l[i] = -1
			continue
		}
		l[i] = x + w*y
	}
	return l
}

// Center returns the centre of the tile t of a ground of w columns.
func Center(w, t int) api.Vec {
	return api.Vec{X: int64(t%w)*api.One + api.One/2, Y: int64(t/w)*api.One + api.One/2}
}

// Of returns the tile that contains the point p, which must lie on a ground of w columns.
func Of(w int, p api.Vec) int {
	return column(p.X) + w*column(p.Y)
}

// Meets reports whether the nearest point of the tile t of a ground of w columns is closer to p than r, which is at most 4 tiles.
func Meets(w, t int, p api.Vec, r int64) bool {
	x, y := beside(p.X, t%w), beside(p.Y, t/w)
	return x < r && y < r && x*x+y*y < r*r
}

// Free reports whether the disc at p is on the ground of w times h tiles and meets only open ones.
func Free(w, h int, open []bool, p api.Vec, r int64) bool {
	if p.X < r || p.X > int64(w)*api.One-r || p.Y < r || p.Y > int64(h)*api.One-r {
		return false
	}
	right, below := min(column(p.X+r), w-1), min(column(p.Y+r), h-1)
	for y := column(p.Y - r); y <= below; y++ {
		for x := column(p.X - r); x <= right; x++ {
			if t := x + w*y; !open[t] && Meets(w, t, p, r) {
				return false
			}
		}
	}
	return true
}

// column returns the column, or the row, in which a component that is not negative lies.
func column(a int64) int { return int(a / api.One) }

// beside returns how far a component lies outside of this column, or row.
func beside(a int64, column int) int64 {
	from := int64(column) * api.One
	return max(from-a, a-from-api.One, 0)
}
