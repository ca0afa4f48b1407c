// Package crowd: where units stand, so that asking for room takes no look at all of them. Its callers have checked the ground and the buildings already.
package crowd

import (
	"cmp"
	"slices"
	"sync"

	"throng/api"
	"throng/cells"
	"throng/clear"
	"throng/disc"
	"throng/kind"
	"throng/tiles"
)

// Crowd holds a ground with its buildings, and the units on the field.
type Crowd struct {
	ground    api.Ground
	buildings []api.Building
	lands     [api.Hover + 1]land
	index     *cells.Cells
	discs     map[int]Disc // by IDs
	widest    int64        // of all radii that units can have
}

// Disc is the disc of a unit.
type Disc struct {
	At     api.Vec
	Radius int64
}

// land is what is open for a class; it is reckoned when it is asked for.
type land struct {
	once sync.Once
	open []bool
}

// New returns a crowd without units.
func New(g api.Ground, l []api.Building) *Crowd {
	c := &Crowd{ground: g, buildings: l, index: cells.New(), discs: map[int]Disc{}}
	for k := range api.Kinds {
		of, _ := kind.Of(k)
		c.widest = max(c.widest, of.Radius)
	}
	return c
}

// Of returns the crowd of a valid world.
func Of(w api.World) *Crowd {
	c := New(w.Ground, w.Buildings)
	for _, u := range w.Units {
		if u.In == 0 {
			c.Put(u.ID, u.Kind, u.Pos)
		}
	}
	return c
}

// Put sets where the unit with this ID and this kind stands.
func (c *Crowd) Put(id, k int, p api.Vec) {
	of, _ := kind.Of(k)
	c.index.Put(id, p)
	c.discs[id] = Disc{p, of.Radius}
}

// Fits reports whether a unit of this kind could be at p: whether its disc is free, and apart from all others than that with this ID.
func (c *Crowd) Fits(id, k int, p api.Vec) bool {
	of, _ := kind.Of(k)
	if !tiles.Free(c.ground.W, c.ground.H, c.open(of.Class), p, of.Radius) {
		return false
	}
	for _, d := range c.Around(id, p, of.Radius) {
		if !disc.Apart(p, of.Radius, d.At, d.Radius) {
			return false
		}
	}
	return true
}

// Around returns, in ascending order of their IDs, the discs of all units but that with this ID that a disc at p could overlap; others may be among them.
func (c *Crowd) Around(id int, p api.Vec, r int64) []Disc {
	var l []Disc
	for _, other := range c.index.Near(p, r+c.widest) {
		if other != id {
			l = append(l, c.discs[other])
		}
	}
	return l
}

// open returns which tiles are open for a class.
func (c *Crowd) open(class int) []bool {
	l := &c.lands[class]
	l.once.Do(func() { l.open, _ = clear.Open(c.ground, c.buildings, class) })
	return l.open
}

// Find returns where the unit with this ID is in l, whose IDs are ascending, and whether it is there.
func Find(l []api.Unit, id int) (int, bool) {
	return slices.BinarySearchFunc(l, id, func(u api.Unit, id int) int { return cmp.Compare(u.ID, id) })
}
