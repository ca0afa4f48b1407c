package peer_test

import (
	"math"
	"reflect"
	"slices"
	"testing"

	"throng/api"
	"throng/copies"
	"throng/peer"
	"throng/sample"
)

// stops returns commands of player with these Seqs.
func stops(player int, seqs ...int) []api.Command {
	var l []api.Command
	for _, seq := range seqs {
		l = append(l, api.Command{Kind: api.CmdStop, Player: player, Seq: seq, Units: []int{1 + seq, 5000}})
	}
	return l
}

func input(turn, player int, seqs ...int) api.Input {
	return api.Input{Turn: turn, Player: player, Commands: stops(player, seqs...)}
}

// none is no input.
func none() api.Input { return api.Input{Turn: -1} }

// midway returns a valid state of player 2 of 3 in the midst of a session.
func midway() api.Peer {
	return api.Peer{ID: 2, Players: 3, Delay: 3, Turn: 20, Said: 21, Has: []int{19, 21, 25}, Acked: []int{18, 21, 20},
		Mine:   []api.Input{input(19, 2, 1), input(20, 2), input(21, 2, 5, 6)},
		Inputs: []api.Input{input(20, 2), input(20, 3, 4), input(21, 2, 5, 6), input(21, 3), input(22, 3), input(23, 3), input(24, 3, 9), input(25, 3)},
		Hashes: []uint64{15, 16, 17, 18, 19}}
}

// same compares states; empty lists are the same as none.
func same(a, b api.Peer) bool {
	return reflect.DeepEqual(tidy(a), tidy(b))
}

func tidy(p api.Peer) api.Peer {
	p = copies.Peer(p)
	for _, l := range [][]api.Input{p.Mine, p.Inputs} {
		for i := range l {
			l[i].Commands = append([]api.Command{}, l[i].Commands...)
		}
	}
	p.Mine, p.Inputs, p.Hashes = append([]api.Input{}, p.Mine...), append([]api.Input{}, p.Inputs...), append([]uint64{}, p.Hashes...)
	p.Has, p.Acked = append([]int{}, p.Has...), append([]int{}, p.Acked...)
	return p
}

// P28.1
func TestNew(t *testing.T) {
	for _, c := range [][3]int{{1, 1, 1}, {1, 8, 8}, {8, 8, 3}, {2, 3, 1}} {
		p, e := peer.New(c[0], c[1], c[2])
		var l []int
		for range c[1] {
			l = append(l, c[2]-1)
		}
		want := api.Peer{ID: c[0], Players: c[1], Delay: c[2], Said: c[2] - 1, Has: l, Acked: l}
		if e != api.OK || !same(p, want) || peer.Check(p) != api.OK {
			t.Errorf("New%v %v, %d", c, p, e)
		}
		p.Has[0] = 99
		if p.Acked[0] == 99 {
			t.Error("Has and Acked are one list")
		}
	}
	for _, c := range [][3]int{{0, 1, 1}, {2, 1, 1}, {-1, 3, 1}, {1, 0, 1}, {1, 9, 1}, {9, 9, 1}, {1, 1, 0}, {1, 1, 9}, {math.MinInt, math.MinInt, math.MinInt}, {math.MaxInt, math.MaxInt, math.MaxInt}} {
		if p, e := peer.New(c[0], c[1], c[2]); e != api.ErrForm || !same(p, api.Peer{}) {
			t.Errorf("New%v %v, %d", c, p, e)
		}
	}
}

// valid returns states at the edge of what is valid.
func valid() []api.Peer {
	l := []api.Peer{midway()}
	for _, change := range []func(p *api.Peer){
		func(p *api.Peer) { p.Has[0] = 36 },
		func(p *api.Peer) { p.Has[2], p.Inputs = 19, p.Inputs[:1] },
		func(p *api.Peer) { p.Inputs = nil },
		func(p *api.Peer) { p.Inputs = slices.Delete(p.Inputs, 2, 3) },
		func(p *api.Peer) { p.Said, p.Has[1], p.Acked[1], p.Mine = 22, 22, 22, append(p.Mine, input(22, 2)) },
		func(p *api.Peer) {
			p.Said, p.Has[1], p.Acked[1], p.Acked[2], p.Mine, p.Inputs = 19, 19, 19, 19, p.Mine[:1], nil
		},
		func(p *api.Peer) { p.Acked[0], p.Acked[2], p.Mine = 21, 21, nil },
		func(p *api.Peer) { p.Acked[0], p.Mine = 2, longMine() },
		func(p *api.Peer) { p.Hashes = make([]uint64, 16) },
		func(p *api.Peer) { p.Hashes = nil },
		func(p *api.Peer) { p.Split = true },
	} {
		p := midway()
		change(&p)
		l = append(l, p)
	}
	end := api.Peer{ID: 1, Players: 2, Delay: 8, Turn: api.MaxTicks - 2, Said: api.MaxTicks, Has: []int{api.MaxTicks, api.MaxTicks}, Acked: []int{api.MaxTicks, api.MaxTicks}}
	last := copies.Peer(end)
	last.Turn = api.MaxTicks
	return append(l, end, last)
}

// longMine returns the inputs of player 2 for the turns 3 to 21.
func longMine() []api.Input {
	var l []api.Input
	for turn := 3; turn <= 21; turn++ {
		l = append(l, input(turn, 2))
	}
	return l
}

// invalid returns states that are not valid.
func invalid() []api.Peer {
	l := []api.Peer{{}}
	for _, change := range []func(p *api.Peer){
		func(p *api.Peer) { p.Players = 2 },
		func(p *api.Peer) { p.Players = 0 },
		func(p *api.Peer) {
			p.Players, p.Has, p.Acked = 9, append(p.Has, 20, 20, 20, 20, 20, 20), append(p.Acked, 20, 20, 20, 20, 20, 20)
		},
		func(p *api.Peer) { p.ID = 0 },
		func(p *api.Peer) { p.ID = 4 },
		func(p *api.Peer) { p.ID = math.MinInt },
		func(p *api.Peer) { p.Delay = 0 },
		func(p *api.Peer) { p.Delay = 9 },
		func(p *api.Peer) { p.Delay = 1 },
		func(p *api.Peer) { p.Turn = -1 },
		func(p *api.Peer) { p.Turn = 18 },
		func(p *api.Peer) { p.Turn = 21 },
		func(p *api.Peer) { p.Turn = api.MaxTicks + 1 },
		func(p *api.Peer) { p.Turn = math.MaxInt },
		func(p *api.Peer) { p.Said, p.Has[1], p.Acked[1] = 20, 20, 20 },
		func(p *api.Peer) { p.Said = 20 },
		func(p *api.Peer) {
			p.Said, p.Has[1], p.Acked[1], p.Mine = 23, 23, 23, append(p.Mine, input(22, 2), input(23, 2))
		},
		func(p *api.Peer) { p.Has = p.Has[:2] },
		func(p *api.Peer) { p.Has = append(p.Has, 20) },
		func(p *api.Peer) { p.Acked = p.Acked[:2] },
		func(p *api.Peer) { p.Acked = append(p.Acked, 20) },
		func(p *api.Peer) { p.Has[0] = 18 },
		func(p *api.Peer) { p.Has[2] = 37 },
		func(p *api.Peer) { p.Has[2] = 24 },
		func(p *api.Peer) { p.Has[1] = 22 },
		func(p *api.Peer) { p.Acked[1] = 20 },
		func(p *api.Peer) { p.Acked[2] = 22 },
		func(p *api.Peer) { p.Acked[0] = 1 },
		func(p *api.Peer) { p.Acked[0], p.Mine = 1, append([]api.Input{input(2, 2)}, longMine()...) },
		func(p *api.Peer) { p.Acked[0] = 19 },
		func(p *api.Peer) { p.Acked[0] = 17 },
		func(p *api.Peer) { p.Inputs[0], p.Inputs[1] = p.Inputs[1], p.Inputs[0] },
		func(p *api.Peer) { p.Inputs[1] = p.Inputs[0] },
		func(p *api.Peer) { p.Inputs = append([]api.Input{input(19, 3)}, p.Inputs...) },
		func(p *api.Peer) { p.Inputs = append([]api.Input{input(20, 1)}, p.Inputs...) },
		func(p *api.Peer) { p.Inputs = append(p.Inputs, input(26, 3)) },
		func(p *api.Peer) { p.Inputs = append(p.Inputs, input(25, 4)) },
		func(p *api.Peer) { p.Inputs[1].Commands[0].Player = 1 },
		func(p *api.Peer) { p.Mine = p.Mine[1:] },
		func(p *api.Peer) { p.Mine = p.Mine[:2] },
		func(p *api.Peer) { p.Mine[1].Turn = 19 },
		func(p *api.Peer) { p.Mine[1].Player = 3 },
		func(p *api.Peer) { p.Mine[0], p.Mine[1] = p.Mine[1], p.Mine[0] },
		func(p *api.Peer) { p.Mine[0].Commands[0].Seq = -1 },
		func(p *api.Peer) { p.Mine = append(p.Mine, input(22, 2)) },
		func(p *api.Peer) { p.Hashes = make([]uint64, 17) },
	} {
		p := midway()
		change(&p)
		l = append(l, p)
	}
	early, _ := peer.New(1, 1, 2)
	early.Hashes = []uint64{1}
	ahead, _ := peer.New(2, 2, 1)
	ahead.Has[0] = 17
	end, _ := peer.New(1, 2, 1)
	end.Turn, end.Said, end.Has, end.Acked = api.MaxTicks, api.MaxTicks, []int{api.MaxTicks, api.MaxTicks + 1}, []int{api.MaxTicks, api.MaxTicks}
	return append(l, early, ahead, end)
}

// P28.1
func TestCheck(t *testing.T) {
	for i, p := range valid() {
		if e := peer.Check(p); e != api.OK {
			t.Errorf("Check of valid state %d: %d", i, e)
		}
	}
	note := api.Note{From: 1, To: 2, Input: none(), Done: -1, Have: -1}
	for i, p := range invalid() {
		if e := peer.Check(p); e != api.ErrForm {
			t.Errorf("Check of invalid state %d: %d", i, e)
		}
		if x, e := peer.Say(p, nil); e != api.ErrForm || !same(x, api.Peer{}) {
			t.Errorf("Say in invalid state %d: %d", i, e)
		}
		if x, e := peer.Take(p, note); e != api.ErrForm || !same(x, api.Peer{}) {
			t.Errorf("Take in invalid state %d: %d", i, e)
		}
		if l, e := peer.Notes(p); e != api.ErrForm || len(l) > 0 {
			t.Errorf("Notes in invalid state %d: %d", i, e)
		}
		if l, ok, e := peer.Ready(p); e != api.ErrForm || len(l) > 0 || ok {
			t.Errorf("Ready in invalid state %d: %d", i, e)
		}
		if x, e := peer.Ran(p, 1); e != api.ErrForm || !same(x, api.Peer{}) {
			t.Errorf("Ran in invalid state %d: %d", i, e)
		}
	}
}

// P28.2
func TestSay(t *testing.T) {
	l := stops(2, 3, 7)
	given := midway()
	p, e := peer.Say(given, l)
	want := midway()
	if !same(given, want) {
		t.Error("Say changed what it was given")
	}
	want.Said, want.Has[1], want.Acked[1] = 22, 22, 22
	want.Mine = append(want.Mine, input(22, 2, 3, 7))
	want.Inputs = slices.Insert(want.Inputs, 4, input(22, 2, 3, 7))
	if e != api.OK || !same(p, want) || peer.Check(p) != api.OK {
		t.Errorf("Say %v, %d, want %v", p, e, want)
	}
	if clear(l[0].Units); !same(p, want) {
		t.Error("the input is shared with what was said")
	}
	if clear(p.Mine[3].Commands); !same(api.Peer{Inputs: p.Inputs}, api.Peer{Inputs: want.Inputs}) {
		t.Error("the input is shared")
	}
	if x, e := peer.Say(want, nil); e != api.ErrState || !same(x, api.Peer{}) {
		t.Errorf("Say too early: %d", e)
	}
	if x, e := peer.Say(want, stops(1, 1)); e != api.ErrState || !same(x, api.Peer{}) {
		t.Errorf("Say something wrong too early: %d", e)
	}
	for _, l := range [][]api.Command{stops(1, 3), stops(2, 3, 3), stops(2, -1), make([]api.Command, 65), {{Player: 2}}} {
		if x, e := peer.Say(midway(), l); e != api.ErrForm || !same(x, api.Peer{}) {
			t.Errorf("Say(%v) %d", l, e)
		}
	}
	one, _ := peer.New(1, 1, 2)
	if x, e := peer.Say(one, nil); e != api.ErrState || !same(x, api.Peer{}) {
		t.Errorf("Say before the first turn: %d", e)
	}
	one, _ = peer.Ran(one, 7)
	one, e = peer.Say(one, stops(1, 4))
	if e != api.OK || len(one.Mine) > 0 || one.Said != 2 || !same(one, api.Peer{ID: 1, Players: 1, Delay: 2, Turn: 1, Said: 2, Has: []int{2}, Acked: []int{2}, Inputs: []api.Input{input(2, 1, 4)}, Hashes: []uint64{7}}) {
		t.Errorf("Say of one alone: %v, %d", one, e)
	}
	end := valid()[len(valid())-2]
	if _, e := peer.Say(end, nil); e != api.ErrState {
		t.Errorf("Say at the end: %d", e)
	}
}

func taken(t *testing.T, n api.Note, change func(p *api.Peer)) {
	t.Helper()
	given, want := midway(), midway()
	change(&want)
	p, e := peer.Take(given, n)
	if e != api.OK || !same(p, want) || peer.Check(p) != api.OK {
		t.Errorf("Take(%v) %v, %d, want %v", n, p, e, want)
	}
	if !same(given, midway()) {
		t.Error("Take changed what it was given")
	}
}

// P28.3
func TestTake(t *testing.T) {
	nothing := func(p *api.Peer) {}
	note := func(from int, i api.Input, done int, hash uint64, have int) api.Note {
		return api.Note{From: from, To: 2, Input: i, Done: done, Hash: hash, Have: have}
	}
	taken(t, note(1, none(), -1, 0, -1), nothing)
	taken(t, note(1, input(20, 1, 8), -1, 0, -1), func(p *api.Peer) {
		p.Has[0], p.Inputs = 20, append([]api.Input{input(20, 1, 8)}, p.Inputs...)
	})
	taken(t, note(3, input(26, 3, 8), -1, 0, -1), func(p *api.Peer) { p.Has[2], p.Inputs = 26, append(p.Inputs, input(26, 3, 8)) })
	for _, turn := range []int{0, 19, 21, 36} {
		taken(t, note(1, input(turn, 1, 8), -1, 0, -1), nothing)
	}
	taken(t, note(3, input(25, 3, 8), -1, 0, -1), nothing)
	taken(t, note(3, input(27, 3, 8), -1, 0, -1), nothing)
	taken(t, note(1, none(), -1, 0, 19), func(p *api.Peer) { p.Acked[0], p.Mine = 19, p.Mine[1:] })
	taken(t, note(1, none(), -1, 0, 21), func(p *api.Peer) { p.Acked[0], p.Mine = 21, p.Mine[2:] })
	taken(t, note(3, none(), -1, 0, 21), func(p *api.Peer) { p.Acked[2] = 21 })
	for _, have := range []int{0, 18, 22, api.MaxTicks} {
		taken(t, note(1, none(), -1, 0, have), nothing)
	}
	for done := 15; done < 20; done++ {
		taken(t, note(1, none(), done, uint64(done), -1), nothing)
		taken(t, note(1, none(), done, 99, -1), func(p *api.Peer) { p.Split = true })
	}
	for _, done := range []int{0, 14, 20, 21, api.MaxTicks} {
		taken(t, note(1, none(), done, 99, -1), nothing)
	}
	taken(t, note(1, input(20, 1), 19, 18, 20), func(p *api.Peer) {
		p.Has[0], p.Inputs = 20, append([]api.Input{input(20, 1)}, p.Inputs...)
		p.Acked[0], p.Mine, p.Split = 20, p.Mine[2:], true
	})
}

// P28.3
func TestTakeRefused(t *testing.T) {
	good := api.Note{From: 1, To: 2, Input: input(20, 1, 8), Done: 19, Hash: 19, Have: 20}
	for i, change := range []func(n *api.Note){
		func(n *api.Note) { n.From, n.Input = 2, none() },
		func(n *api.Note) { n.To = 3 },
		func(n *api.Note) { n.From, n.Input = 4, none() },
		func(n *api.Note) { n.From, n.Input = 0, none() },
		func(n *api.Note) { n.From, n.Input = 9, none() },
		func(n *api.Note) { n.To = 0 },
		func(n *api.Note) { n.To = 9 },
		func(n *api.Note) { n.From, n.Input, n.To = 3, none(), 1 },
		func(n *api.Note) { n.Input.Player = 3 },
		func(n *api.Note) { n.Input = input(20, 3, 8) },
		func(n *api.Note) { n.Input.Turn = -1 },
		func(n *api.Note) { n.Input.Turn = -2 },
		func(n *api.Note) { n.Input = api.Input{Turn: -1, Player: 1} },
		func(n *api.Note) { n.Input = api.Input{Turn: -1, Commands: stops(1, 1)} },
		func(n *api.Note) { n.Input = api.Input{} },
		func(n *api.Note) { n.Input.Turn = api.MaxTicks + 1 },
		func(n *api.Note) { n.Input.Commands[0].Player = 2 },
		func(n *api.Note) { n.Done = -2 },
		func(n *api.Note) { n.Done = api.MaxTicks + 1 },
		func(n *api.Note) { n.Done = -1 },
		func(n *api.Note) { n.Have = -2 },
		func(n *api.Note) { n.Have = api.MaxTicks + 1 },
		func(n *api.Note) { n.Input.Turn, n.Have = 37, -2 },
	} {
		n := good
		n.Input = copies.Input(n.Input)
		change(&n)
		if p, e := peer.Take(midway(), n); e != api.ErrForm || !same(p, api.Peer{}) {
			t.Errorf("Take of wrong note %d: %d", i, e)
		}
	}
	good.Input.Turn = 37
	if p, e := peer.Take(midway(), good); e != api.ErrFull || !same(p, api.Peer{}) {
		t.Errorf("Take of a turn too far: %d", e)
	}
}

// P28.4
func TestNotes(t *testing.T) {
	l, e := peer.Notes(midway())
	want := []api.Note{{From: 2, To: 1, Input: input(19, 2, 1), Done: 19, Hash: 19, Have: 19}, {From: 2, To: 3, Input: input(21, 2, 5, 6), Done: 19, Hash: 19, Have: 25}}
	if e != api.OK || !reflect.DeepEqual(l, want) {
		t.Errorf("Notes %v, %d, want %v", l, e, want)
	}
	p := midway()
	p.Hashes, p.Acked[2] = nil, 21
	l, _ = peer.Notes(p)
	want[0].Done, want[0].Hash, want[1].Done, want[1].Hash, want[1].Input = -1, 0, -1, 0, none()
	if !reflect.DeepEqual(l, want) {
		t.Errorf("Notes %v, want %v", l, want)
	}
	p.Hashes = []uint64{44}
	l, _ = peer.Notes(p)
	if l[0].Done != 19 || l[0].Hash != 44 {
		t.Errorf("Notes with one hash: %v", l)
	}
	one, _ := peer.New(1, 1, 1)
	if l, e := peer.Notes(one); len(l) > 0 || e != api.OK {
		t.Errorf("Notes of one alone: %v, %d", l, e)
	}
	p = midway()
	p.Acked[2] = 18
	l, _ = peer.Notes(p)
	clear(l[0].Input.Commands[0].Units)
	if l[1].Input.Commands[0].Units[0] == 0 || p.Mine[0].Commands[0].Units[0] == 0 {
		t.Error("two notes share an input")
	}
}

// P28.5
func TestReadyAndRan(t *testing.T) {
	p := midway()
	if l, ok, e := peer.Ready(p); len(l) > 0 || ok || e != api.OK {
		t.Errorf("Ready too early: %v, %v, %d", l, ok, e)
	}
	if x, e := peer.Ran(p, 5); e != api.ErrState || !same(x, api.Peer{}) {
		t.Errorf("Ran too early: %d", e)
	}
	p.Inputs, p.Has[0] = append([]api.Input{input(20, 1, 7)}, p.Inputs...), 20
	l, ok, e := peer.Ready(p)
	if !reflect.DeepEqual(l, append(stops(1, 7), stops(3, 4)...)) || !ok || e != api.OK {
		t.Errorf("Ready %v, %v, %d", l, ok, e)
	}
	want := copies.Peer(p)
	want.Turn, want.Inputs, want.Hashes = 21, want.Inputs[3:], append(want.Hashes, 77)
	p.Hashes = append(make([]uint64, 0, 20), p.Hashes...)
	given := copies.Peer(p)
	x, e := peer.Ran(p, 77)
	if e != api.OK || !same(x, want) || peer.Check(x) != api.OK {
		t.Errorf("Ran %v, %d, want %v", x, e, want)
	}
	x.Hashes[0], x.Has[0], x.Acked[0] = 1, 1, 1
	clear(x.Inputs)
	if clear(x.Mine[0].Commands); !same(p, given) || p.Hashes[:6][5] != 0 {
		t.Error("Ran handed out, or changed, what it was given")
	}
	p.Hashes = slices.Repeat([]uint64{9}, 15)
	if x, _ := peer.Ran(p, 77); !slices.Equal(x.Hashes, append(slices.Clone(p.Hashes), 77)) {
		t.Errorf("Ran with the last hash that fits: %v", x.Hashes)
	}
	p.Hashes = slices.Repeat([]uint64{1, 2, 3, 4}, 4)
	if x, _ := peer.Ran(p, 77); !slices.Equal(x.Hashes, append(p.Hashes[1:16:16], 77)) {
		t.Errorf("Ran with many hashes: %v", x.Hashes)
	}
	for i, p := range valid()[len(valid())-2:] {
		l, ok, e := peer.Ready(p)
		x, f := peer.Ran(p, 3)
		if len(l) > 0 || ok != (i == 0) || e != api.OK || (f == api.OK) != (i == 0) || i == 1 && (f != api.ErrState || !same(x, api.Peer{})) {
			t.Errorf("at the end: %v, %v, %d, %d", l, ok, e, f)
		}
	}
	one, _ := peer.New(1, 1, 1)
	if l, ok, e := peer.Ready(one); len(l) > 0 || !ok || e != api.OK {
		t.Errorf("Ready of the example: %v, %v, %d", l, ok, e)
	}
}

// P28.6, T3: peers that lose, double and delay notes execute the same, and go on when notes arrive.
func TestLossyNetwork(t *testing.T) {
	d := sample.Dice(12)
	for _, c := range [][2]int{{2, 1}, {3, 4}, {8, 8}, {5, 2}} {
		var peers []api.Peer
		for id := 1; id <= c[0]; id++ {
			p, _ := peer.New(id, c[0], c[1])
			peers = append(peers, p)
		}
		said := map[[2]int][]api.Command{}
		var transit []api.Note
		for round := range 600 {
			i := d.Roll(c[0])
			l := stops(i+1, d.Roll(5), 5+d.Roll(5))[:d.Roll(3)]
			if p, e := peer.Say(peers[i], l); e == api.OK {
				said[[2]int{p.Said, i + 1}], peers[i] = l, p
			}
			notes, _ := peer.Notes(peers[i])
			transit = append(transit, notes...)
			for range d.Roll(6) {
				if n := d.Roll(len(transit) + 1); n < len(transit) {
					if p, e := peer.Take(peers[transit[n].To-1], transit[n]); e == api.OK && d.Roll(4) > 0 {
						peers[transit[n].To-1] = p
					}
					if d.Roll(3) > 0 {
						transit = slices.Delete(transit, n, n+1)
					}
				}
			}
			run(t, &peers[i], said)
			if round%100 == 99 {
				settle(t, peers, said)
				transit = nil
			}
		}
	}
}

// run executes what is ready, and asks whether these are the commands that were said.
func run(t *testing.T, p *api.Peer, said map[[2]int][]api.Command) {
	t.Helper()
	for {
		if peer.Check(*p) != api.OK || p.Split {
			t.Fatalf("state %v", *p)
		}
		l, ok, e := peer.Ready(*p)
		if !ok || e != api.OK {
			return
		}
		var want []api.Command
		for id := 1; id <= p.Players; id++ {
			want = append(want, said[[2]int{p.Turn, id}]...)
		}
		if len(l) != len(want) || len(l) > 0 && !reflect.DeepEqual(l, want) {
			t.Fatalf("turn %d of peer %d: %v, want %v", p.Turn, p.ID, l, want)
		}
		*p, _ = peer.Ran(*p, uint64(p.Turn)*31)
	}
}

// settle lets notes arrive until all peers have executed what was said for all.
func settle(t *testing.T, peers []api.Peer, said map[[2]int][]api.Command) {
	t.Helper()
	for range 40 {
		for i := range peers {
			l, _ := peer.Notes(peers[i])
			for _, n := range l {
				if p, e := peer.Take(peers[n.To-1], n); e == api.OK {
					peers[n.To-1] = p
				}
			}
		}
		for i := range peers {
			run(t, &peers[i], said)
		}
	}
	least := peers[0].Said
	for _, p := range peers {
		least = min(least, p.Said)
	}
	for _, p := range peers {
		if p.Turn != least+1 {
			t.Fatalf("peer %d is at turn %d, and all have said %d", p.ID, p.Turn, least)
		}
	}
}
