package mapcode_test

import (
	"bytes"
	"encoding/binary"
	"hash/fnv"
	"testing"

	"throng/api"
	"throng/mapcode"
)

// mixed returns a ground with all terrains.
func mixed(w, h int) api.Ground {
	g := api.Ground{W: w, H: h, Tiles: make([]byte, w*h)}
	for i := range g.Tiles {
		g.Tiles[i] = byte(i * 7 % 6)
	}
	return g
}

func grounds() []api.Ground {
	return []api.Ground{mixed(1, 1), mixed(3, 2), mixed(127, 1), mixed(1, 128), mixed(128, 2), mixed(128, 128)}
}

// sealed returns b with its hash.
func sealed(b []byte) []byte {
	h := fnv.New64a()
	h.Write(b)
	return binary.LittleEndian.AppendUint64(bytes.Clone(b), h.Sum64())
}

// plain returns the encoding of g without its hash.
func plain(g api.Ground) []byte {
	b := binary.AppendUvarint([]byte("TG"), uint64(g.W))
	return append(binary.AppendUvarint(b, uint64(g.H)), g.Tiles...)
}

// P7.1, P7.2, P7.3
func TestThereAndBack(t *testing.T) {
	for _, g := range grounds() {
		b, e := mapcode.Bytes(g)
		if e != api.OK || !bytes.Equal(b, sealed(plain(g))) {
			t.Fatalf("Bytes of %d times %d: %d, %v", g.W, g.H, e, b)
		}
		x, e := mapcode.Parse(b)
		if e != api.OK || x.W != g.W || x.H != g.H || !bytes.Equal(x.Tiles, g.Tiles) {
			t.Fatalf("Parse of %d times %d: %d", g.W, g.H, e)
		}
		for i := 0; i < len(b); i += 1 + i/100 {
			refused(t, b[:i], api.ErrCut)
		}
		refused(t, b[:len(b)-1], api.ErrCut)
		refused(t, append(b, 0), api.ErrForm)
	}
}

// P7.1
func TestInvalidGround(t *testing.T) {
	for _, g := range []api.Ground{{}, {W: 2, H: 1, Tiles: []byte{0}}, {W: 1, H: 1, Tiles: []byte{6}}, {W: 129, H: 1, Tiles: make([]byte, 129)}} {
		if b, e := mapcode.Bytes(g); len(b) > 0 || e != api.ErrForm {
			t.Errorf("Bytes(%v) %v, %d", g, b, e)
		}
	}
}

func refused(t *testing.T, b []byte, want api.Errno) {
	t.Helper()
	if g, e := mapcode.Parse(b); e != want || g.W != 0 || g.H != 0 || len(g.Tiles) > 0 {
		t.Errorf("Parse(%v) %v, %d, want %d", b[:min(len(b), 20)], g, e, want)
	}
}

// P7.2
func TestFirstFault(t *testing.T) {
	refused(t, nil, api.ErrCut)
	refused(t, []byte("T"), api.ErrCut)
	refused(t, []byte("X"), api.ErrForm)
	refused(t, []byte("TW"), api.ErrForm)
	refused(t, []byte("GT"), api.ErrForm)
	refused(t, []byte("TG"), api.ErrCut)
	refused(t, []byte{'T', 'G', 0}, api.ErrForm)
	refused(t, []byte{'T', 'G', 0x80}, api.ErrCut)
	refused(t, []byte{'T', 'G', 0x80, 0}, api.ErrForm)
	refused(t, []byte{'T', 'G', 0x81, 1}, api.ErrForm)
	refused(t, []byte{'T', 'G', 0x80, 1}, api.ErrCut)
	refused(t, []byte{'T', 'G', 2, 0}, api.ErrForm)
	refused(t, []byte{'T', 'G', 2, 0x81, 1}, api.ErrForm)
	refused(t, []byte{'T', 'G', 2, 2, 6}, api.ErrForm)
	refused(t, []byte{'T', 'G', 2, 2, 5, 0, 255}, api.ErrForm)
	refused(t, []byte{'T', 'G', 2, 2, 5, 0, 0, 0}, api.ErrCut)
	refused(t, sealed([]byte{'T', 'G', 0, 0}), api.ErrForm)
}

// P7.2
func TestWrongHash(t *testing.T) {
	b, _ := mapcode.Bytes(mixed(3, 2))
	for i := range 8 {
		c := bytes.Clone(b)
		c[len(c)-8+i] ^= 0x40
		refused(t, c, api.ErrForm)
		refused(t, c[:len(c)-7+i], api.ErrForm)
		refused(t, c[:len(c)-8+i], api.ErrCut)
	}
	for i := range b {
		c := bytes.Clone(b)
		c[i] ^= 1
		if g, e := mapcode.Parse(c); e == api.OK || g.W != 0 {
			t.Errorf("byte %d changed: %v, %d", i, g, e)
		}
	}
}

// R2
func TestParseIsNew(t *testing.T) {
	g := mixed(3, 2)
	b, _ := mapcode.Bytes(g)
	x, _ := mapcode.Parse(b)
	clear(x.Tiles)
	if y, e := mapcode.Parse(b); e != api.OK || !bytes.Equal(y.Tiles, g.Tiles) {
		t.Error("Parse handed out what it was given")
	}
}
