package replay_test

import (
	"bytes"
	"encoding/binary"
	"hash/fnv"
	"math"
	"slices"
	"testing"

	"throng/api"
	"throng/command"
	"throng/image"
	"throng/mapcode"
	"throng/replay"
	"throng/sample"
	"throng/world"
)

// some returns the commands of a frame, in order.
func some(g api.Ground, players int, d *sample.Dice) []api.Command {
	var l []api.Command
	for player := 1; player <= players; player++ {
		for seq := range d.Roll(3) {
			c := sample.Command(api.World{Players: players, NextID: 10, Ground: g}, d)
			c.Player, c.Seq = player, seq
			l = append(l, c)
		}
	}
	return l
}

// recorded returns a replay that was played.
func recorded(frames, players int, d *sample.Dice) api.Replay {
	r := api.Replay{Players: players, Ground: sample.Ground(9, 8, d, 18)}
	w, _ := world.New(r.Ground, players)
	x, _ := world.Open(w, 3)
	for turn := range frames {
		l := some(r.Ground, players, d)
		x.Step(l)
		h, _ := image.Hash(x.World())
		r.Frames = append(r.Frames, api.Frame{Turn: turn, Commands: l, Hash: h})
	}
	return r
}

func equalFrames(a, b []api.Frame) bool {
	return slices.EqualFunc(a, b, func(a, b api.Frame) bool {
		return a.Turn == b.Turn && a.Hash == b.Hash && sample.SameCommands(a.Commands, b.Commands)
	})
}

func equal(a, b api.Replay) bool {
	return a.Players == b.Players && a.Ground.W == b.Ground.W && a.Ground.H == b.Ground.H && bytes.Equal(a.Ground.Tiles, b.Ground.Tiles) && equalFrames(a.Frames, b.Frames)
}

func num(b []byte, l ...int) []byte {
	b = bytes.Clone(b)
	for _, n := range l {
		b = binary.AppendUvarint(b, uint64(n))
	}
	return b
}

// sealed returns b with the hash of a frame, and the hash of all.
func sealed(b []byte, hash uint64) []byte {
	b = binary.LittleEndian.AppendUint64(bytes.Clone(b), hash)
	return binary.LittleEndian.AppendUint64(b, sum(b))
}

// sum returns the hash of b.
func sum(b []byte) uint64 {
	h := fnv.New64a()
	h.Write(b)
	return h.Sum64()
}

// encoded writes r by the words of the document, and tells where frames end.
func encoded(r api.Replay) ([]byte, []int) {
	g, _ := mapcode.Bytes(r.Ground)
	b := append(num([]byte("TR"), r.Players, len(g)), g...)
	ends := []int{len(b)}
	for _, f := range r.Frames {
		b = num(b, len(f.Commands))
		for _, c := range f.Commands {
			x, _ := command.Bytes(c)
			b = append(b, x...)
		}
		b = sealed(b, f.Hash)
		ends = append(ends, len(b))
	}
	return b, ends
}

// P29.1, P29.2, P29.4, T4
func TestThereAndBack(t *testing.T) {
	d := sample.Dice(2)
	for _, c := range [][2]int{{0, 1}, {1, 8}, {12, 3}} {
		r := recorded(c[0], c[1], &d)
		want, ends := encoded(r)
		b, e := replay.Bytes(r)
		if e != api.OK || !bytes.Equal(b, want) {
			t.Fatalf("Bytes of %d frames: %d", c[0], e)
		}
		if x, e := replay.Parse(b); e != api.OK || !equal(x, r) {
			t.Fatalf("Parse of %d frames: %d", c[0], e)
		}
		for n := range b {
			x, e := replay.Parse(b[:n])
			frames, found := slices.BinarySearch(ends, n)
			part := api.Replay{}
			if n >= ends[0] {
				if !found {
					frames--
				}
				part = api.Replay{Players: r.Players, Ground: r.Ground, Frames: r.Frames[:frames]}
			}
			if (e == api.OK) != found || e != api.OK && e != api.ErrCut || !equal(x, part) {
				t.Fatalf("Parse of %d of %d bytes: %d, %d frames", n, len(b), e, len(x.Frames))
			}
		}
	}
}

// P29.3, T4
func TestRun(t *testing.T) {
	d := sample.Dice(7)
	for range 4 {
		r := recorded(40, 1+d.Roll(8), &d)
		var want []uint64
		for _, f := range r.Frames {
			want = append(want, f.Hash)
		}
		h, same, e := replay.Run(r)
		if e != api.OK || !same || !slices.Equal(h, want) {
			t.Fatalf("Run %v, %d", same, e)
		}
		r.Frames[39].Hash++
		if h, same, e := replay.Run(r); e != api.OK || same || !slices.Equal(h, want) {
			t.Errorf("Run with another hash: %v, %d", same, e)
		}
		r.Frames[39].Hash--
		r.Frames[0].Hash--
		if h, same, e := replay.Run(r); e != api.OK || same || !slices.Equal(h, want) {
			t.Errorf("Run with another first hash: %v, %d", same, e)
		}
	}
	if h, same, e := replay.Run(recorded(0, 2, &d)); e != api.OK || !same || len(h) > 0 {
		t.Errorf("Run without frames: %v, %d", same, e)
	}
}

func stop(player, seq int) api.Command {
	return api.Command{Kind: api.CmdStop, Player: player, Seq: seq, Units: []int{5}}
}

// invalid returns replays that are not valid.
func invalid() []api.Replay {
	d := sample.Dice(3)
	frame := func(l ...api.Command) []api.Frame { return []api.Frame{{Commands: l}} }
	many := make([]api.Command, 513)
	for i := range many {
		many[i] = stop(1+i/300, i)
	}
	l := []api.Replay{{}}
	for _, change := range []func(r *api.Replay){
		func(r *api.Replay) { r.Players = 0 },
		func(r *api.Replay) { r.Players = 9 },
		func(r *api.Replay) { r.Players = math.MinInt },
		func(r *api.Replay) { r.Ground.W = 7 },
		func(r *api.Replay) { r.Ground.Tiles = append(bytes.Clone(r.Ground.Tiles[:71]), 6) },
		func(r *api.Replay) { r.Frames = []api.Frame{{Turn: 1}} },
		func(r *api.Replay) { r.Frames = []api.Frame{{Turn: 0}, {Turn: 0}} },
		func(r *api.Replay) { r.Frames = []api.Frame{{Turn: 0}, {Turn: 2}} },
		func(r *api.Replay) { r.Frames = []api.Frame{{Turn: -1}} },
		func(r *api.Replay) { r.Frames = frame(stop(4, 1)) },
		func(r *api.Replay) { r.Frames = frame(stop(2, 1), stop(1, 1)) },
		func(r *api.Replay) { r.Frames = frame(stop(2, 1), stop(2, 1)) },
		func(r *api.Replay) { r.Frames = frame(stop(2, 2), stop(2, 1)) },
		func(r *api.Replay) { r.Frames = frame(api.Command{Player: 1}) },
		func(r *api.Replay) { r.Frames = frame(many...) },
		func(r *api.Replay) {
			r.Frames = make([]api.Frame, api.MaxFrames+1)
			for i := range r.Frames {
				r.Frames[i].Turn = i
			}
		},
	} {
		r := api.Replay{Players: 3, Ground: sample.Ground(9, 8, &d, 18)}
		change(&r)
		l = append(l, r)
	}
	return l
}

// P29.1, P29.3
func TestInvalid(t *testing.T) {
	for i, r := range invalid() {
		if b, e := replay.Bytes(r); e != api.ErrForm || len(b) > 0 {
			t.Errorf("Bytes of replay %d: %d", i, e)
		}
		if h, same, e := replay.Run(r); e != api.ErrForm || len(h) > 0 || same {
			t.Errorf("Run of replay %d: %v, %d", i, same, e)
		}
	}
}

// P29.1, P29.2: as many frames, and as many commands, as may be.
func TestMost(t *testing.T) {
	r := api.Replay{Players: 2, Ground: api.Ground{W: 1, H: 1, Tiles: []byte{0}}, Frames: make([]api.Frame, api.MaxFrames)}
	for i := range r.Frames {
		r.Frames[i] = api.Frame{Turn: i, Hash: uint64(i) << 50}
	}
	for i := range 512 {
		r.Frames[9].Commands = append(r.Frames[9].Commands, stop(1+i/256, i))
	}
	b, e := replay.Bytes(r)
	if want, _ := encoded(r); e != api.OK || !bytes.Equal(b, want) {
		t.Fatalf("Bytes %d", e)
	}
	if x, e := replay.Parse(b); e != api.OK || !equal(x, r) {
		t.Errorf("Parse %d", e)
	}
	if x, e := replay.Parse(append(b, 0)); e != api.ErrForm || !equal(x, r) {
		t.Errorf("Parse with one more frame: %d", e)
	}
}

// P29.1, P29.2
func TestTooLong(t *testing.T) {
	r := api.Replay{Players: 1, Ground: api.Ground{W: 1, H: 1, Tiles: []byte{0}}}
	units := make([]int, 64)
	for i := range units {
		units[i] = api.MaxID - 64 + i
	}
	full := api.Command{Kind: api.CmdStop, Player: 1, Units: units}
	x, _ := command.Bytes(full)
	start, _ := encoded(r)
	left := api.MaxBytes - len(start)
	frame := func(l ...api.Command) {
		r.Frames = append(r.Frames, api.Frame{Turn: len(r.Frames), Commands: l})
	}
	for ; left > 2*(len(x)+17); left -= len(x) + 17 {
		frame(full)
	}
	y, _ := command.Bytes(stop(1, 0))
	var l []api.Command
	for left -= 17; left%len(y) > 0; left -= len(y) + 1 { // a greater Seq takes a byte more
		l = append(l, stop(1, 128+len(l)))
	}
	for i := range left / len(y) {
		l = slices.Insert(l, i, stop(1, i))
	}
	frame(l...)
	last := &r.Frames[len(r.Frames)-1]
	b, e := replay.Bytes(r)
	if e != api.OK || len(b) != api.MaxBytes {
		t.Fatalf("Bytes %d, %d bytes", e, len(b))
	}
	if x, e := replay.Parse(b); e != api.OK || !equal(x, r) {
		t.Errorf("Parse of MaxBytes: %d", e)
	}
	if x, e := replay.Parse(append(b, 0)); e != api.ErrForm || !equal(x, api.Replay{}) {
		t.Errorf("Parse of one byte more: %d", e)
	}
	last.Commands = append(last.Commands, stop(1, 2000))
	if b, e := replay.Bytes(r); e != api.ErrLimit || len(b) > 0 {
		t.Errorf("Bytes of too many: %d", e)
	}
}

// P29.2
func TestFirstFault(t *testing.T) {
	d := sample.Dice(3)
	r := recorded(2, 3, &d)
	r.Frames = r.Frames[:1]
	b, ends := encoded(r)
	start := b[:ends[0]]
	empty := api.Replay{}
	g, _ := mapcode.Bytes(r.Ground)
	wrong := bytes.Clone(start)
	wrong[len(wrong)-1]++
	for _, c := range []struct {
		b    []byte
		want api.Errno
	}{{nil, api.ErrCut}, {[]byte("T"), api.ErrCut}, {[]byte("X"), api.ErrForm}, {[]byte("TW"), api.ErrForm}, {[]byte("TR"), api.ErrCut}, {num([]byte("TR"), 0), api.ErrForm}, {num([]byte("TR"), 9), api.ErrForm},
		{[]byte{'T', 'R', 0x81, 0}, api.ErrForm}, {num([]byte("TR"), 8), api.ErrCut}, {num([]byte("TR"), 8, api.MaxBytes+1), api.ErrForm}, {num([]byte("TR"), 8, 5), api.ErrCut}, {num([]byte("TR"), 8, 0), api.ErrForm},
		{append(num([]byte("TR"), 3, len(g)-1), g[:len(g)-1]...), api.ErrForm}, {wrong, api.ErrForm}} {
		if x, e := replay.Parse(c.b); e != c.want || !equal(x, empty) {
			t.Errorf("Parse(%v) %d, want %d", c.b, e, c.want)
		}
	}
	a, _ := command.Bytes(stop(2, 5))
	for i, c := range []struct {
		b    []byte
		want api.Errno
	}{{num(b, 513), api.ErrForm}, {append(bytes.Clone(b), 0x80, 0), api.ErrForm}, {append(bytes.Clone(b), 0x80), api.ErrCut}, {num(b, 512), api.ErrCut}, {num(b, 1, 8), api.ErrForm}, {num(b, 1, 3, 4), api.ErrCut},
		{num(b, 1, 3, 4, 1, 1, 5), api.ErrForm}, {append(append(num(b, 2), a...), a...), api.ErrForm}, {append(append(num(b, 2), a...), num(nil, 3, 1, 9, 1, 5)...), api.ErrForm}, {append(append(num(b, 2), a...), num(nil, 3, 2, 4, 1, 5)...), api.ErrForm},
		{append(append(num(b, 2), a...), num(nil, 3, 2, 6, 1, 5)...), api.ErrCut}, {num(b, 0), api.ErrCut}, {num(b, 0, 1, 2, 3, 4, 5, 6, 7), api.ErrCut}, {num(b, 0, 1, 2, 3, 4, 5, 6, 7, 8), api.ErrCut},
		{append(num(b, 0, 0, 0, 0, 0, 0, 0, 0, 0), byte(sum(num(b, 0, 0, 0, 0, 0, 0, 0, 0, 0)))^1), api.ErrForm}} {
		if x, e := replay.Parse(c.b); e != c.want || !equal(x, r) {
			t.Errorf("Parse of case %d: %d, %d frames, want %d", i, e, len(x.Frames), c.want)
		}
	}
}

// P29.2: no byte can be changed.
func TestChanged(t *testing.T) {
	d := sample.Dice(4)
	r := recorded(3, 2, &d)
	b, ends := encoded(r)
	for i := range b {
		c := bytes.Clone(b)
		c[i] ^= 1
		x, e := replay.Parse(c)
		frames, found := slices.BinarySearch(ends, i)
		if !found {
			frames--
		}
		players := api.Replay{Players: r.Players ^ 1, Ground: r.Ground}
		if i == 2 && e == api.ErrForm && equal(x, players) { // the fault shows at the end of the first frame
			continue
		}
		if e == api.OK || i < ends[0] && !equal(x, api.Replay{}) || i >= ends[0] && !equalFrames(x.Frames, r.Frames[:frames]) {
			t.Errorf("byte %d changed: %d, %d frames", i, e, len(x.Frames))
		}
	}
}
