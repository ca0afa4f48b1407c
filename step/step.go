// Package step: steps between good tiles, for callers that have checked the ground and the class already.
package step

import (
	"throng/api"
	"throng/kind"
	"throng/tiles"
)

const (
	straight = 5 // times the costs of both tiles
	diagonal = 7
	corners  = 4 // the first neighbour that is a diagonal one
)

// sides are, for each diagonal neighbour, the two straight ones between which it lies.
var sides = [tiles.Count - corners][2]int{{0, 1}, {2, 1}, {2, 3}, {0, 3}}

// Land is a ground with its good tiles.
type Land struct {
	w    int
	h    int
	good []bool
	cost []int
}

// Step leads to a tile. If there is no such step, To is -1.
type Step struct {
	To   int
	Cost int
}

// On returns the land of g for this class, with these good tiles.
func On(g api.Ground, good []bool, class int) Land {
	cost := make([]int, len(g.Tiles))
	for t, terrain := range g.Tiles {
		cost[t], _ = kind.Cost(class, terrain)
	}
	return Land{w: g.W, h: g.H, good: good, cost: cost}
}

// From returns the steps from the tile t to each of its neighbours.
func (l Land) From(t int) [tiles.Count]Step {
	var steps [tiles.Count]Step
	near := tiles.Near(l.w, l.h, t)
	for i, to := range near {
		steps[i].To = -1
		if to < 0 || !l.good[t] || !l.good[to] {
			continue
		}
		factor := straight
		if i >= corners {
			side := sides[i-corners]
			if !l.good[near[side[0]]] || !l.good[near[side[1]]] {
				continue
			}
			factor = diagonal
		}
		steps[i] = Step{To: to, Cost: factor * (l.cost[t] + l.cost[to])}
	}
	return steps
}
