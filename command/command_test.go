package command_test

import (
	"bytes"
	"encoding/binary"
	"math"
	"testing"

	"throng/api"
	"throng/command"
	"throng/sample"
)

// list returns n ascending IDs.
func list(n int) []int {
	l := make([]int, n)
	for i := range l {
		l[i] = 1 + i*i*300
	}
	return l
}

// good returns valid commands of all Kinds, at the edges too.
func good() []api.Command {
	l := []api.Command{
		{Kind: api.CmdSpawn, N: 0},
		{Kind: api.CmdSpawn, N: 3, At: api.Vec{X: 1 << 40, Y: -1 << 40}},
		{Kind: api.CmdSpawn, N: 2, At: api.Vec{X: -1 << 40, Y: 1 << 40}},
		{Kind: api.CmdSpawn, N: 1, At: api.Vec{X: 98304, Y: -7}},
		{Kind: api.CmdMove, Units: []int{1}, Tile: 0},
		{Kind: api.CmdMove, Units: list(64), Tile: 16383},
		{Kind: api.CmdStop, Units: []int{5}},
		{Kind: api.CmdStop, Units: []int{4, 5, api.MaxID - 1, api.MaxID}},
		{Kind: api.CmdBuild, Tile: 0, W: 1, H: 1},
		{Kind: api.CmdBuild, Tile: 16383, W: 4, H: 4},
		{Kind: api.CmdDrop, N: 1},
		{Kind: api.CmdDrop, N: api.MaxID},
		{Kind: api.CmdLoad, N: api.MaxID, Units: []int{127, 128}},
		{Kind: api.CmdLoad, N: 1, Units: []int{1}},
		{Kind: api.CmdUnload, N: 300, Tile: 200},
		{Kind: api.CmdUnload, N: 1, Tile: 0},
	}
	for i := range l {
		l[i].Player = 1 + i%8
		l[i].Seq = []int{0, 1, 127, 128, api.MaxTicks}[i%5]
	}
	return l
}

// bad returns commands that are not valid.
func bad() []api.Command {
	var l []api.Command
	for _, c := range good() {
		for _, change := range []func(c *api.Command){
			func(c *api.Command) { c.Player = 0 },
			func(c *api.Command) { c.Player = 9 },
			func(c *api.Command) { c.Player = math.MinInt },
			func(c *api.Command) { c.Seq = -1 },
			func(c *api.Command) { c.Seq = api.MaxTicks + 1 },
			func(c *api.Command) { c.Kind = 0 },
			func(c *api.Command) { c.Kind = 8 },
			func(c *api.Command) { c.Kind = math.MinInt },
			func(c *api.Command) { c.N = -1 },
			func(c *api.Command) { c.N = api.MaxID + 1 },
			func(c *api.Command) { c.Tile = -1 },
			func(c *api.Command) { c.Tile = 16384 },
			func(c *api.Command) { c.W = 5 },
			func(c *api.Command) { c.H = 5 },
			func(c *api.Command) { c.W = -1 },
			func(c *api.Command) { c.H = math.MinInt },
			func(c *api.Command) { c.Units = list(65) },
			func(c *api.Command) { c.Units = []int{0} },
			func(c *api.Command) { c.Units = []int{2, 2} },
			func(c *api.Command) { c.Units = []int{3, 2} },
			func(c *api.Command) { c.Units = []int{1, api.MaxID + 1} },
			func(c *api.Command) { c.At.X = 1<<40 + 1 },
			func(c *api.Command) { c.At.Y = -1<<40 - 1 },
			func(c *api.Command) { c.At.Y = math.MinInt64 },
		} {
			c := c
			change(&c)
			l = append(l, c)
		}
	}
	return append(l, lacking()...)
}

// lacking returns commands that lack a field of their Kind, or have one of another Kind.
func lacking() []api.Command {
	l := []api.Command{{Kind: api.CmdSpawn, N: 4}, {Kind: api.CmdSpawn, Tile: 1}, {Kind: api.CmdSpawn, W: 1}, {Kind: api.CmdSpawn, H: 1}, {Kind: api.CmdSpawn, Units: []int{1}},
		{Kind: api.CmdMove}, {Kind: api.CmdMove, Tile: 3}, {Kind: api.CmdMove, Units: []int{1}, N: 1}, {Kind: api.CmdMove, Units: []int{1}, W: 1}, {Kind: api.CmdMove, Units: []int{1}, At: api.Vec{X: 1}},
		{Kind: api.CmdStop}, {Kind: api.CmdStop, Units: []int{1}, Tile: 1}, {Kind: api.CmdStop, Units: []int{1}, N: 1}, {Kind: api.CmdStop, Units: []int{1}, At: api.Vec{Y: 1}},
		{Kind: api.CmdBuild}, {Kind: api.CmdBuild, W: 1}, {Kind: api.CmdBuild, H: 1}, {Kind: api.CmdBuild, W: 1, H: 1, N: 1}, {Kind: api.CmdBuild, W: 1, H: 1, Units: []int{1}},
		{Kind: api.CmdDrop}, {Kind: api.CmdDrop, N: 1, Tile: 1}, {Kind: api.CmdDrop, N: 1, H: 1}, {Kind: api.CmdDrop, N: 1, Units: []int{1}},
		{Kind: api.CmdLoad, N: 1}, {Kind: api.CmdLoad, Units: []int{1}}, {Kind: api.CmdLoad, N: 1, Units: []int{1}, Tile: 1},
		{Kind: api.CmdUnload}, {Kind: api.CmdUnload, Tile: 1}, {Kind: api.CmdUnload, N: 1, Units: []int{1}}, {Kind: api.CmdUnload, N: 1, W: 1}, {Kind: api.CmdUnload, N: 1, At: api.Vec{X: -1}}}
	for i := range l {
		l[i].Player = 1
	}
	return l
}

// encoded writes c by the words of the document.
func encoded(c api.Command) []byte {
	num := func(b []byte, l ...int) []byte {
		for _, n := range l {
			b = binary.AppendUvarint(b, uint64(n))
		}
		return b
	}
	b := num(nil, c.Kind, c.Player, c.Seq)
	units := append([]int{len(c.Units)}, c.Units...)
	switch c.Kind {
	case api.CmdSpawn:
		return binary.AppendVarint(binary.AppendVarint(num(b, c.N), c.At.X), c.At.Y)
	case api.CmdMove:
		return num(num(b, units...), c.Tile)
	case api.CmdStop:
		return num(b, units...)
	case api.CmdBuild:
		return num(b, c.Tile, c.W, c.H)
	case api.CmdDrop:
		return num(b, c.N)
	case api.CmdLoad:
		return num(num(b, units...), c.N)
	}
	return num(b, c.N, c.Tile)
}

// P22.1, P22.2
func TestGood(t *testing.T) {
	for _, c := range good() {
		if e := command.Check(c); e != api.OK {
			t.Errorf("Check(%v) %d", c, e)
		}
		b, e := command.Bytes(c)
		if e != api.OK || !bytes.Equal(b, encoded(c)) {
			t.Fatalf("Bytes(%v) %v, %d, want %v", c, b, e, encoded(c))
		}
		if x, size, e := command.Parse(append(b, 0x80, 1)); e != api.OK || size != len(b) || !sample.SameCommand(x, c) {
			t.Fatalf("Parse of Bytes(%v) %v, %d, %d", c, x, size, e)
		}
		for i := range b {
			refused(t, b[:i], api.ErrCut)
		}
	}
	if b, _ := command.Bytes(api.Command{Kind: api.CmdStop, Player: 1, Seq: 2, Units: []int{5}}); !bytes.Equal(b, []byte{3, 1, 2, 1, 5}) {
		t.Errorf("Bytes of the example %v", b)
	}
}

// P22.1
func TestBad(t *testing.T) {
	for _, c := range bad() {
		if e := command.Check(c); e != api.ErrForm {
			t.Errorf("Check(%v) %d", c, e)
		}
		if b, e := command.Bytes(c); len(b) > 0 || e != api.ErrForm {
			t.Errorf("Bytes(%v) %v, %d", c, b, e)
		}
	}
}

func refused(t *testing.T, b []byte, want api.Errno) {
	t.Helper()
	if c, size, e := command.Parse(b); e != want || size != 0 || !sample.SameCommand(c, api.Command{}) {
		t.Errorf("Parse(%v) %v, %d, %d, want %d", b, c, size, e, want)
	}
}

// P22.1: each number alone out of its range, with nothing behind it.
func TestFirstFault(t *testing.T) {
	num := func(l ...int) []byte {
		var b []byte
		for _, n := range l {
			b = binary.AppendUvarint(b, uint64(n))
		}
		return b
	}
	far := func(b []byte, l ...int64) []byte {
		for _, n := range l {
			b = binary.AppendVarint(b, n)
		}
		return b
	}
	for _, b := range [][]byte{num(0), num(8), num(1<<62 + 1), num(1, 0), num(1, 9), num(1, 1, api.MaxTicks+1),
		num(1, 1, 0, 4), far(num(1, 1, 0, 3), 1<<40+1), far(num(1, 1, 0, 3), -1<<40-1), far(num(1, 1, 0, 3), 5, 1<<40+1), far(num(1, 1, 0, 3), 5, -1<<40-1),
		num(2, 1, 0, 0), num(2, 1, 0, 65), num(2, 1, 0, 2, 0), num(2, 1, 0, 2, 5, 5), num(2, 1, 0, 2, 5, 4), num(2, 1, 0, 1, api.MaxID+1), num(2, 1, 0, 1, 5, 16384),
		num(3, 1, 0, 0), num(4, 1, 0, 16384), num(4, 1, 0, 5, 0), num(4, 1, 0, 5, 5), num(4, 1, 0, 5, 4, 0), num(4, 1, 0, 5, 4, 5),
		num(5, 1, 0, 0), num(5, 1, 0, api.MaxID+1), num(6, 1, 0, 1, 5, 0), num(6, 1, 0, 1, 5, api.MaxID+1), num(7, 1, 0, 0), num(7, 1, 0, 5, 16384),
		{0x81, 0}, {1, 0x81, 0, 1}, {1, 1, 0x80, 0}, {1, 1, 0, 0x80, 0}, {3, 1, 0, 2, 0x85, 0, 9}} {
		refused(t, b, api.ErrForm)
	}
	refused(t, nil, api.ErrCut)
	refused(t, []byte{0x80}, api.ErrCut)
	refused(t, []byte{2, 1, 0, 2, 5, 0x80}, api.ErrCut)
}

// R2
func TestParseIsNew(t *testing.T) {
	c := api.Command{Kind: api.CmdStop, Player: 1, Units: []int{5, 6, 7}}
	b, _ := command.Bytes(c)
	x, _, _ := command.Parse(b)
	y, _, _ := command.Parse(b)
	clear(x.Units[:cap(x.Units)])
	if !sample.SameCommand(y, c) || !bytes.Equal(b, encoded(c)) {
		t.Error("two answers share their Units")
	}
}
