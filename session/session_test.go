package session_test

import (
	"math"
	"reflect"
	"slices"
	"testing"

	"throng/api"
	"throng/copies"
	"throng/image"
	"throng/peer"
	"throng/replay"
	"throng/sample"
	"throng/session"
	"throng/world"
)

// some returns commands, as a rule with ascending Seq.
func some(g api.Ground, d *sample.Dice) []api.Command {
	var l []api.Command
	for seq := range d.Roll(4) {
		c := sample.Command(api.World{Players: 8, NextID: 10, Ground: g}, d)
		c.Seq = seq + d.Roll(2)
		l = append(l, c)
	}
	return l
}

// script returns acts, some of them impossible.
func script(g api.Ground, players, n int, d *sample.Dice) []api.Act {
	var l []api.Act
	for range n {
		a := api.Act{Kind: d.Roll(9), Peer: 1 + d.Roll(players), N: d.Roll(100) - 20, Pick: d.Roll(3)}
		if d.Roll(2) == 0 {
			a.Kind = []int{api.ActSay, api.ActTick}[d.Roll(2)]
		}
		if d.Roll(30) == 0 {
			a.Peer = []int{0, -1, players + 1, math.MaxInt, math.MinInt}[d.Roll(5)]
		}
		switch a.Kind {
		case api.ActSay:
			a.Commands = some(g, d)
		case api.ActCalm:
			a.N = []int{0, 1, 2, 61, -1, math.MinInt, math.MaxInt, 3}[d.Roll(8)]
		}
		l = append(l, a)
	}
	return l
}

// model performs a session by the words of the document. Its engines have a room of 1.
type model struct {
	peers   []api.Peer
	engines []*world.Engine
	r       api.Report
	transit []api.Note
}

func newModel(g api.Ground, players, delay int) *model {
	m := &model{r: api.Report{Hashes: make([][]uint64, players)}}
	for id := 1; id <= players; id++ {
		p, _ := peer.New(id, players, delay)
		w, _ := world.New(g, players)
		x, _ := world.Open(w, 1)
		m.peers, m.engines = append(m.peers, p), append(m.engines, x)
	}
	return m
}

func (m *model) tick(i int) {
	notes, _ := peer.Notes(m.peers[i])
	m.transit = append(m.transit, notes...)
	for range 4 {
		l, ok, _ := peer.Ready(m.peers[i])
		if !ok {
			break
		}
		m.engines[i].Step(l)
		h, _ := image.Hash(m.engines[i].World())
		if i == 0 {
			m.r.Log = append(m.r.Log, api.Frame{Turn: m.peers[0].Turn, Commands: l, Hash: h})
		}
		m.peers[i], _ = peer.Ran(m.peers[i], h)
		m.r.Hashes[i] = append(m.r.Hashes[i], h)
	}
}

func (m *model) bring(n api.Note) {
	if p, e := peer.Take(m.peers[n.To-1], n); e == api.OK {
		m.peers[n.To-1] = p
	}
}

func (m *model) act(a api.Act) {
	known := a.Peer >= 1 && a.Peer <= len(m.peers)
	at := 0
	if n := len(m.transit); n > 0 {
		if at = a.N % n; at < 0 {
			at += n
		}
	}
	switch {
	case a.Kind == api.ActSay && known:
		l := copies.Commands(a.Commands)
		for i := range l {
			l[i].Player = a.Peer
		}
		if p, e := peer.Say(m.peers[a.Peer-1], l); e == api.OK {
			m.peers[a.Peer-1] = p
		}
	case a.Kind == api.ActTick && known:
		m.tick(a.Peer - 1)
	case a.Kind == api.ActBring && len(m.transit) > 0:
		n := m.transit[at]
		m.transit = slices.Delete(m.transit, at, at+1)
		m.bring(n)
	case a.Kind == api.ActDouble && len(m.transit) > 0:
		m.transit = append(m.transit, m.transit[at])
	case a.Kind == api.ActLose && len(m.transit) > 0:
		m.transit = slices.Delete(m.transit, at, at+1)
	case a.Kind == api.ActCalm && a.N <= 60:
		for range a.N {
			for i := range m.peers {
				m.tick(i)
			}
			for _, n := range m.transit {
				m.bring(n)
			}
			m.transit = nil
		}
	}
}

func (m *model) report() api.Report {
	for i, p := range m.peers {
		m.r.Turns = append(m.r.Turns, p.Turn)
		m.r.Worlds = append(m.r.Worlds, m.engines[i].World())
		m.r.Splits = append(m.r.Splits, p.Split)
	}
	return m.r
}

// same compares reports; empty lists are the same as none.
func same(a, b api.Report) bool {
	tidy := func(r api.Report) api.Report {
		r.Log = slices.Clone(r.Log)
		for i := range r.Log {
			r.Log[i].Commands = append([]api.Command{}, r.Log[i].Commands...)
			for j := range r.Log[i].Commands {
				r.Log[i].Commands[j].Units = append([]int{}, r.Log[i].Commands[j].Units...)
			}
		}
		r.Hashes = slices.Clone(r.Hashes)
		for i := range r.Hashes {
			r.Hashes[i] = append([]uint64{}, r.Hashes[i]...)
		}
		r.Worlds = slices.Clone(r.Worlds)
		for i := range r.Worlds {
			r.Worlds[i].Units = append([]api.Unit{}, r.Worlds[i].Units...)
			r.Worlds[i].Buildings = append([]api.Building{}, r.Worlds[i].Buildings...)
		}
		return r
	}
	a, b = tidy(a), tidy(b)
	return slices.Equal(a.Turns, b.Turns) && slices.Equal(a.Splits, b.Splits) && reflect.DeepEqual(a.Hashes, b.Hashes) &&
		reflect.DeepEqual(a.Worlds, b.Worlds) && (len(a.Log) == 0 && len(b.Log) == 0 || reflect.DeepEqual(a.Log, b.Log))
}

// P30.1, P30.2, P30.3: against the model, with any room.
func TestAgainstModel(t *testing.T) {
	d := sample.Dice(6)
	turns := 0
	for _, c := range [][2]int{{1, 1}, {1, 8}, {2, 1}, {2, 4}, {3, 2}, {5, 8}, {8, 3}} {
		g := sample.Ground(8+d.Roll(4), 8+d.Roll(4), &d, 20)
		l := script(g, c[0], 400, &d)
		m := newModel(g, c[0], c[1])
		for _, a := range l {
			m.act(a)
		}
		want := m.report()
		for _, room := range []int{1, 5, api.MaxUnits} {
			given := slices.Clone(l)
			for i := range given {
				given[i].Commands = copies.Commands(l[i].Commands)
			}
			r, e := session.Run(g, c[0], c[1], room, l)
			if e != api.OK || !same(r, want) {
				t.Fatalf("Run of %v with room %d: %d, turns %v, want %v", c, room, e, r.Turns, want.Turns)
			}
			if !reflect.DeepEqual(given, l) {
				t.Fatal("the acts changed")
			}
			agree(t, g, c[0], r)
			turns += r.Turns[0]
		}
	}
	if turns < 300 {
		t.Errorf("%d turns alone", turns)
	}
}

// agree asks whether all peers came to the same states, and the log is a replay of them (T3, T4).
func agree(t *testing.T, g api.Ground, players int, r api.Report) {
	t.Helper()
	h, ok, e := replay.Run(api.Replay{Players: players, Ground: g, Frames: r.Log})
	if e != api.OK || !ok || !slices.Equal(h, r.Hashes[0]) || len(r.Log) != r.Turns[0] {
		t.Fatalf("the log: %v, %d", ok, e)
	}
	for i, other := range r.Hashes {
		n := min(len(other), len(h))
		if len(other) != r.Turns[i] || !slices.Equal(other[:n], h[:n]) || r.Splits[i] {
			t.Fatalf("peer %d and the first one", i+1)
		}
		if x, _ := image.Hash(r.Worlds[i]); len(other) > 0 && x != other[len(other)-1] || r.Worlds[i].Tick != len(other) {
			t.Fatalf("the world of peer %d", i+1)
		}
	}
}

// P30.1: the example.
func TestExample(t *testing.T) {
	g := api.Ground{W: 2, H: 1, Tiles: make([]byte, 2)}
	tick, say := api.Act{Kind: api.ActTick, Peer: 1}, api.Act{Kind: api.ActSay, Peer: 1}
	for _, c := range []struct {
		delay int
		l     []api.Act
		want  int
	}{{1, nil, 0}, {1, []api.Act{tick}, 1}, {1, []api.Act{tick, tick}, 1}, {1, []api.Act{tick, say, tick}, 2}, {1, []api.Act{say, tick, say, say, tick}, 2}, {8, []api.Act{tick}, 4}, {8, []api.Act{tick, tick, tick}, 8}} {
		if r, e := session.Run(g, 1, c.delay, 1, c.l); e != api.OK || !slices.Equal(r.Turns, []int{c.want}) || len(r.Log) != c.want {
			t.Errorf("Run(%v) %v, %d, want %d", c.l, r.Turns, e, c.want)
		}
	}
}

// P30.1: all commands of an act are the peer's.
func TestSay(t *testing.T) {
	g := api.Ground{W: 9, H: 9, Tiles: make([]byte, 81)}
	spawn := api.Command{Player: 7, Kind: api.CmdSpawn, At: api.Vec{X: api.One, Y: api.One}}
	l := []api.Act{{Kind: api.ActCalm, N: 1}, {Kind: api.ActSay, Peer: 2, Commands: []api.Command{spawn}}, {Kind: api.ActSay, Peer: 1}, {Kind: api.ActCalm, N: 2}}
	r, e := session.Run(g, 2, 1, 1, l)
	if e != api.OK || !slices.Equal(r.Turns, []int{2, 2}) || len(r.Worlds[0].Units) != 1 || r.Worlds[0].Units[0].Owner != 2 || r.Log[1].Commands[0].Player != 2 {
		t.Errorf("Run %v, %d", r, e)
	}
	if l[1].Commands[0].Player != 7 {
		t.Error("the commands that were handed in changed")
	}
}

// P30.1: a note is brought, doubled or lost by its number.
func TestNotes(t *testing.T) {
	g := api.Ground{W: 2, H: 1, Tiles: make([]byte, 2)}
	start := []api.Act{{Kind: api.ActTick, Peer: 1}, {Kind: api.ActTick, Peer: 2}, {Kind: api.ActSay, Peer: 1}, {Kind: api.ActSay, Peer: 2}, {Kind: api.ActTick, Peer: 1}, {Kind: api.ActTick, Peer: 2}}
	bring, double, lose := api.ActBring, api.ActDouble, api.ActLose
	// In transit: two notes without inputs (0 to peer 2, 1 to peer 1), two with them (2 to peer 2, 3 to peer 1).
	for _, c := range []struct {
		acts [][2]int
		want []int
	}{{nil, []int{1, 1}}, {[][2]int{{bring, 0}, {bring, 0}}, []int{1, 1}}, {[][2]int{{bring, 3}}, []int{2, 1}}, {[][2]int{{bring, 2}}, []int{1, 2}}, {[][2]int{{bring, -1}}, []int{2, 1}}, {[][2]int{{bring, -2}}, []int{1, 2}},
		{[][2]int{{bring, 7}, {bring, 2}}, []int{2, 2}}, {[][2]int{{lose, 3}, {bring, 3}}, []int{1, 1}}, {[][2]int{{double, 3}, {lose, 3}, {bring, 3}}, []int{2, 1}}, {[][2]int{{lose, 0}, {lose, 0}, {lose, 0}, {lose, 0}, {lose, 0}, {bring, 0}, {double, 0}}, []int{1, 1}},
		{[][2]int{{bring, math.MinInt}}, []int{1, 1}}, {[][2]int{{bring, math.MaxInt}}, []int{2, 1}}} {
		l := slices.Clone(start)
		for _, a := range c.acts {
			l = append(l, api.Act{Kind: a[0], N: a[1], Peer: -9})
		}
		l = append(l, api.Act{Kind: api.ActTick, Peer: 1}, api.Act{Kind: api.ActTick, Peer: 2})
		if r, e := session.Run(g, 2, 1, 1, l); e != api.OK || !slices.Equal(r.Turns, c.want) {
			t.Errorf("%v: %v, %d, want %v", c.acts, r.Turns, e, c.want)
		}
	}
}

// P30.1, T3: in the calm all peers make progress.
func TestCalm(t *testing.T) {
	g := api.Ground{W: 2, H: 1, Tiles: make([]byte, 2)}
	var l []api.Act
	for id := 1; id <= 3; id++ {
		for range 2 {
			l = append(l, api.Act{Kind: api.ActSay, Peer: id})
		}
	}
	for n, want := range map[int]int{0: 0, 1: 4, 2: 8, 60: 8, 61: 0, -1: 0, math.MinInt: 0, math.MaxInt: 0} {
		if r, e := session.Run(g, 3, 8, 1, append(l, api.Act{Kind: api.ActCalm, N: n})); e != api.OK || !slices.Equal(r.Turns, []int{want, want, want}) {
			t.Errorf("calm for %d: %v, %d, want %d", n, r.Turns, e, want)
		}
	}
}

// P30.1
func TestWrong(t *testing.T) {
	g := api.Ground{W: 2, H: 1, Tiles: make([]byte, 2)}
	acts := func(n int) []api.Act { return make([]api.Act, n) }
	if _, e := session.Run(g, 8, 8, api.MaxUnits, acts(400)); e != api.OK {
		t.Errorf("as much as may be: %d", e)
	}
	for i, c := range []struct {
		g                    api.Ground
		players, delay, room int
		n                    int
	}{{api.Ground{}, 1, 1, 1, 0}, {g, 0, 1, 1, 0}, {g, 9, 1, 1, 0}, {g, 1, 0, 1, 0}, {g, 1, 9, 1, 0}, {g, 1, 1, 0, 0}, {g, 1, 1, api.MaxUnits + 1, 0}, {g, 1, 1, 1, 401}, {g, math.MinInt, math.MaxInt, math.MinInt, 0}} {
		if r, e := session.Run(c.g, c.players, c.delay, c.room, acts(c.n)); e != api.ErrForm || !reflect.DeepEqual(r, api.Report{}) {
			t.Errorf("case %d: %d", i, e)
		}
	}
}
