package move

import (
	"slices"
	"sync"

	"throng/api"
	"throng/army"
	"throng/copies"
	"throng/crowd"
	"throng/field"
	"throng/kind"
	"throng/steer"
	"throng/tiles"
	"throng/vec"
)

// halvings is how many parts of a step are tried; it stands for none of them, too.
const halvings = 5

// toGoal is what field.Dirs does.
type toGoal func(g api.Ground, l []api.Building, class int, size int, goal int) ([]int, api.Errno)

// march holds a copy of a valid world in which units move. Its ground and its buildings stay as they are.
type march struct {
	w      api.World
	others *crowd.Crowd
	dirs   toGoal
	lands  [api.Kinds]land
}

// land is where units of a kind can go; it is reckoned when it is asked for.
type land struct {
	once sync.Once
	good []bool
}

// begin returns a march of w, which must be valid.
func begin(w api.World, dirs toGoal) *march {
	own := copies.World(w)
	return &march{w: own, others: crowd.Of(own), dirs: dirs}
}

// one returns a march in which this unit alone moves, and the unit.
func one(w api.World, id int) (*march, *api.Unit, api.Errno) {
	if e := army.Check(w); e != api.OK {
		return nil, nil, e
	}
	i, found := crowd.Find(w.Units, id)
	switch {
	case !found:
		return nil, nil, api.ErrNone
	case w.Units[i].In != 0:
		return nil, nil, api.ErrAway
	}
	m := begin(w, field.Dirs)
	return m, &m.w.Units[i], api.OK
}

// unit performs one move of u.
func (m *march) unit(u *api.Unit) {
	if u.Goal == -1 {
		m.giveWay(u)
	} else {
		m.goOn(u)
	}
}

// try moves u by v or a part of it, and returns how often v was halved.
func (m *march) try(u *api.Unit, v api.Vec) int {
	v = vec.Add(v, api.Vec{})
	for k := range halvings {
		s := api.Vec{X: v.X / (1 << k), Y: v.Y / (1 << k)}
		if s == (api.Vec{}) {
			return halvings
		}
		if p := vec.Add(u.Pos, s); m.others.Fits(u.ID, u.Kind, p) {
			u.Pos = p
			m.others.Put(u.ID, u.Kind, p)
			return k
		}
	}
	return halvings
}

// giveWay pushes u, which has no goal, away from the units that are too near.
func (m *march) giveWay(u *api.Unit) {
	of := kindOf(u)
	var sum api.Vec
	for _, d := range m.others.Around(u.ID, u.Pos, of.Radius+api.Gap) {
		away := steer.Apart(u.Pos, of.Radius+d.Radius+api.Gap, []api.Vec{d.At})
		sum = vec.Add(sum, away)
	}
	m.try(u, vec.Clamp(sum, of.Speed/4))
}

// goOn moves u, which has a goal, on its way.
func (m *march) goOn(u *api.Unit) {
	if u.Pos == m.center(u.Goal) {
		end(u, api.Arrived)
		return
	}
	if m.astray(u) && !m.turn(u) {
		end(u, api.Lost)
		return
	}
	if m.try(u, steer.Toward(u.Pos, m.center(u.Next), kindOf(u).Speed)) < halvings {
		u.Stuck = 0
		return
	}
	u.Next = -1
	u.Stuck++
	if u.Stuck == api.MaxWait {
		end(u, api.GaveUp)
	}
}

// astray reports whether u needs a new Next.
func (m *march) astray(u *api.Unit) bool {
	if u.Next == -1 || u.Pos == m.center(u.Next) || !m.good(u)[u.Next] {
		return true
	}
	own := m.own(u)
	near := tiles.Near(m.w.Ground.W, m.w.Ground.H, own)
	return u.Next != own && !slices.Contains(near[:], u.Next)
}

// turn gives u a new Next, and reports whether there is one.
func (m *march) turn(u *api.Unit) bool {
	own := m.own(u)
	if u.Pos != m.center(own) {
		u.Next = own
		return true
	}
	of := kindOf(u)
	dirs, _ := m.dirs(m.w.Ground, m.w.Buildings, of.Class, of.Size, u.Goal)
	if dirs[own] == -1 {
		return false
	}
	u.Next = tiles.Near(m.w.Ground.W, m.w.Ground.H, own)[dirs[own]]
	return true
}

// own returns the tile that contains u.
func (m *march) own(u *api.Unit) int { return tiles.Of(m.w.Ground.W, u.Pos) }

// center returns the centre of the tile t.
func (m *march) center(t int) api.Vec { return tiles.Center(m.w.Ground.W, t) }

// good returns which tiles are good for units of u's kind.
func (m *march) good(u *api.Unit) []bool {
	l := &m.lands[u.Kind]
	l.once.Do(func() {
		of := kindOf(u)
		l.good, _ = field.Good(m.w.Ground, m.w.Buildings, of.Class, of.Size)
	})
	return l.good
}

// kindOf returns the properties of u's kind.
func kindOf(u *api.Unit) api.Kind {
	k, _ := kind.Of(u.Kind)
	return k
}

// end ends the way of u.
func end(u *api.Unit, state int) {
	u.Goal, u.Next, u.Stuck, u.State = -1, -1, 0, state
}
