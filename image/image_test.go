package image_test

import (
	"bytes"
	"encoding/binary"
	"hash/fnv"
	"math"
	"testing"

	"throng/api"
	"throng/army"
	"throng/image"
	"throng/mapcode"
	"throng/sample"
)

// camp returns a valid world with buildings and units, on the field and in a carrier.
func camp() api.World {
	g := api.Ground{W: 9, H: 7, Tiles: make([]byte, 63)}
	for x := range 9 {
		g.Tiles[x] = byte(x % 6)
	}
	at := func(x, y int64) api.Vec { return api.Vec{X: x*api.One + api.One/2, Y: y*api.One + api.One/2} }
	return api.World{Tick: 300, Players: 3, NextID: 5000, Ground: g,
		Buildings: []api.Building{{ID: 2, Owner: 1, X: 1, Y: 4, W: 2, H: 3}, {ID: 1000, Owner: 3, X: 5, Y: 6, W: 1, H: 1}},
		Units: []api.Unit{
			{ID: 1, Owner: 1, Pos: at(1, 2), Goal: -1, Next: -1, State: api.GaveUp},
			{ID: 200, Owner: 2, Kind: 1, Pos: at(3, 2), Goal: 62, Next: 0, Stuck: 7, State: api.Moving},
			{ID: 201, Owner: 3, Kind: 3, Pos: at(7, 5), Goal: 0, Next: -1, State: api.Moving},
			{ID: 4999, Owner: 3, Goal: -1, Next: -1, In: 201}}}
}

// worlds returns valid worlds.
func worlds() []api.World {
	large := api.World{Tick: api.MaxTicks, Players: 8, NextID: api.MaxID, Ground: api.Ground{W: 128, H: 128, Tiles: make([]byte, 1<<14)}}
	for i := range 100 {
		large.Units = append(large.Units, api.Unit{ID: api.MaxID - 200 + i, Owner: 8, Pos: api.Vec{X: int64(i+1) * api.One, Y: 100*api.One - 1}, Goal: 16383, Next: i, State: api.Moving})
	}
	for i := range api.MaxBuilt {
		large.Buildings = append(large.Buildings, api.Building{ID: i + 1, Owner: 1, X: i % 128, Y: i / 128, W: 1, H: 1})
	}
	return []api.World{camp(), large, {Players: 1, NextID: 1, Ground: api.Ground{W: 1, H: 1, Tiles: []byte{5}}}}
}

// num returns b with numbers behind it.
func num(b []byte, l ...int) []byte {
	b = bytes.Clone(b)
	for _, n := range l {
		b = binary.AppendUvarint(b, uint64(n))
	}
	return b
}

// plain returns the encoding of w without its hash, by the words of the document.
func plain(w api.World) []byte {
	g, _ := mapcode.Bytes(w.Ground)
	b := num([]byte("TW"), w.Tick, w.Players, w.NextID, len(g))
	b = num(append(b, g...), len(w.Buildings))
	for _, x := range w.Buildings {
		b = num(b, x.ID, x.Owner, x.X, x.Y, x.W, x.H)
	}
	b = num(b, len(w.Units))
	for _, u := range w.Units {
		b = num(b, u.ID, u.Owner, u.Kind)
		b = binary.AppendVarint(binary.AppendVarint(b, u.Pos.X), u.Pos.Y)
		b = num(b, u.Goal+1, u.Next+1, u.Stuck, u.In, u.State)
	}
	return b
}

func sum(b []byte) uint64 {
	h := fnv.New64a()
	h.Write(b)
	return h.Sum64()
}

// sealed returns b with its hash.
func sealed(b []byte) []byte { return binary.LittleEndian.AppendUint64(bytes.Clone(b), sum(b)) }

func refused(t *testing.T, b []byte, want api.Errno) {
	t.Helper()
	if w, e := image.Parse(b); e != want || !sample.SameWorld(w, api.World{}) {
		t.Errorf("Parse(%v) %d, want %d", b[:min(len(b), 30)], e, want)
	}
}

// P26.1, P26.2, P26.3
func TestThereAndBack(t *testing.T) {
	for i, w := range worlds() {
		if army.Check(w) != api.OK {
			t.Fatalf("world %d is not valid", i)
		}
		b, e := image.Bytes(w)
		if e != api.OK || !bytes.Equal(b, sealed(plain(w))) {
			t.Fatalf("Bytes of world %d: %d", i, e)
		}
		if h, e := image.Hash(w); e != api.OK || h != sum(plain(w)) {
			t.Errorf("Hash of world %d: %d, %d", i, h, e)
		}
		x, e := image.Parse(b)
		if e != api.OK || !sample.SameWorld(x, w) {
			t.Fatalf("Parse of world %d: %d", i, e)
		}
		for n := 0; n < len(b); n += 1 + n/60 {
			refused(t, b[:n], api.ErrCut)
		}
		refused(t, b[:len(b)-1], api.ErrCut)
		refused(t, append(b, 0), api.ErrForm)
	}
}

// P26.1
func TestInvalidWorld(t *testing.T) {
	w := camp()
	w.Units[0].Stuck = 1
	for _, w := range []api.World{{}, w} {
		if b, e := image.Bytes(w); len(b) > 0 || e != api.ErrForm {
			t.Errorf("Bytes %d", e)
		}
		if h, e := image.Hash(w); h != 0 || e != api.ErrForm {
			t.Errorf("Hash %d, %d", h, e)
		}
	}
}

// P26.2: what is not valid is refused when it is read to its end.
func TestParseInvalidWorld(t *testing.T) {
	for _, change := range []func(w *api.World){
		func(w *api.World) { w.Tick = api.MaxTicks + 1 },
		func(w *api.World) { w.Players = 0 },
		func(w *api.World) { w.Players = math.MaxInt },
		func(w *api.World) { w.NextID = 4999 },
		func(w *api.World) { w.Buildings[1].ID = 2 },
		func(w *api.World) { w.Buildings[0].X = math.MaxInt },
		func(w *api.World) { w.Units[0].ID = 0 },
		func(w *api.World) { w.Units[0].Kind = 4 },
		func(w *api.World) { w.Units[0].Pos = w.Units[1].Pos },
		func(w *api.World) { w.Units[0].Pos.X = -1 << 62 },
		func(w *api.World) { w.Units[1].Goal = 63 },
		func(w *api.World) { w.Units[1].Goal = math.MaxInt - 1 },
		func(w *api.World) { w.Units[1].Stuck = 8 },
		func(w *api.World) { w.Units[3].In = 1 },
		func(w *api.World) { w.Units[0].State = 5 },
	} {
		w := camp()
		change(&w)
		b := sealed(plain(w))
		refused(t, b, api.ErrForm)
		refused(t, b[:len(b)-1], api.ErrCut)
		refused(t, append(b, 1), api.ErrForm)
	}
}

// P26.2
func TestFirstFault(t *testing.T) {
	g, _ := mapcode.Bytes(camp().Ground)
	start := num([]byte("TW"), 1, 1, 9)
	ground := append(num(start, len(g)), g...)
	wrong := bytes.Clone(ground)
	wrong[len(wrong)-1] ^= 1
	short := append(num(start, len(g)-1), g[:len(g)-1]...)
	for _, b := range [][]byte{[]byte("X"), []byte("TG"), []byte("WT"), {'T', 'W', 0x80, 0}, {'T', 'W', 1, 0x81, 0}, {'T', 'W', 1, 1, 0x80, 0}, num(start, api.MaxBytes+1),
		append(bytes.Clone(start), 0x80, 0), num(start, 0), wrong, short, num(ground, api.MaxBuilt+1), append(bytes.Clone(ground), 0x80, 0), num(ground, 0, api.MaxUnits+1), append(num(ground, 1), 0x80, 0),
		append(num(ground, 0, 1), 0x80, 0), append(num(ground, 0, 1, 1, 1, 1), 0xff, 0)} {
		refused(t, b, api.ErrForm)
	}
	for _, b := range [][]byte{nil, []byte("T"), []byte("TW"), num(start, 5, 1, 1), start, num(start, api.MaxBytes), ground, num(ground, 0), num(ground, api.MaxBuilt), num(ground, 0, api.MaxUnits), num(ground, 0, 0)} {
		refused(t, b, api.ErrCut)
	}
	if _, e := image.Parse(sealed(num(ground, 0, 0))); e != api.OK {
		t.Errorf("Parse without faults: %d", e)
	}
}

// P26.2
func TestWrongHash(t *testing.T) {
	b, _ := image.Bytes(camp())
	for i := range 8 {
		c := bytes.Clone(b)
		c[len(c)-8+i] ^= 1
		refused(t, c, api.ErrForm)
		refused(t, c[:len(c)-7+i], api.ErrForm)
		refused(t, c[:len(c)-8+i], api.ErrCut)
	}
	for i := range b {
		c := bytes.Clone(b)
		c[i] ^= 2
		if w, e := image.Parse(c); e == api.OK || !sample.SameWorld(w, api.World{}) {
			t.Errorf("byte %d changed: %d", i, e)
		}
	}
}
