package fields_test

import (
	"bytes"
	"math"
	"slices"
	"testing"

	"throng/api"
	"throng/field"
	"throng/fields"
	"throng/sample"
)

// land returns a ground with some of every terrain, and buildings on it.
func land(w, h, seed int) (api.Ground, []api.Building) {
	d := sample.Dice(seed)
	g := sample.Ground(w, h, &d, 16)
	g.Tiles[5], g.Tiles[6] = api.Plain, api.Plain
	return g, []api.Building{{ID: 1, Owner: 1, X: 5, W: 1, H: 1}, {ID: 3, Owner: 2, X: 6, W: 1, H: 1}}
}

func opened(t *testing.T, room int) *fields.Fields {
	t.Helper()
	f, e := fields.New(room)
	if f == nil || e != api.OK || f.Made() != 0 {
		t.Fatalf("New(%d) %v, %d", room, f, e)
	}
	return f
}

// ask asks for a field, and whether it is right.
func ask(t *testing.T, f *fields.Fields, g api.Ground, l []api.Building, class, size, goal int) {
	t.Helper()
	got, e := f.Dirs(g, l, class, size, goal)
	want, w := field.Dirs(g, l, class, size, goal)
	if e != w || !slices.Equal(got, want) {
		t.Fatalf("Dirs(%d, %d, %d) %v, %d, want %v, %d", class, size, goal, got, e, want, w)
	}
}

// made asks how many fields were computed.
func made(t *testing.T, f *fields.Fields, want int) {
	t.Helper()
	if f.Made() != want {
		t.Fatalf("Made %d, want %d", f.Made(), want)
	}
}

// P18.1
func TestNew(t *testing.T) {
	for _, room := range []int{1, 7, api.MaxUnits} {
		opened(t, room)
	}
	for _, room := range []int{0, -1, api.MaxUnits + 1, math.MinInt, math.MaxInt} {
		if f, e := fields.New(room); f != nil || e != api.ErrForm {
			t.Errorf("New(%d) %v, %d", room, f, e)
		}
	}
}

// P18.1, P18.2, P18.3: whatever was asked before, with any room.
func TestAgainstField(t *testing.T) {
	g, l := land(12, 10, 1)
	h, m := land(10, 12, 2)
	for _, room := range []int{1, 2, 5, 40, api.MaxUnits} {
		f := opened(t, room)
		seed := uint64(room)
		for range 1500 {
			seed = seed*6364136223846793005 + 1442695040888963407
			class, size, goal := int(seed>>60)%5-1, int(seed>>50)%6-1, int(seed>>40)%12*11-1
			ground, buildings := g, l
			switch seed >> 30 & 63 {
			case 0:
				ground, buildings = h, m
			case 1:
				buildings = l[:1]
			case 2:
				buildings = append(slices.Clone(l), l[0])
			case 3:
				ground = api.Ground{W: 12, H: 10, Tiles: g.Tiles[1:]}
			case 4:
				f.Forget()
			}
			ask(t, f, ground, buildings, class, size, goal)
			before := f.Made()
			ask(t, f, ground, buildings, class, size, goal)
			made(t, f, before)
		}
	}
}

// P18.2
func TestMade(t *testing.T) {
	g, l := land(12, 10, 3)
	f := opened(t, 2)
	ask(t, f, g, l, 0, 0, 7)
	ask(t, f, g, l, 0, 0, 7)
	made(t, f, 1)
	ask(t, f, g, l, 1, 0, 7)
	ask(t, f, g, l, 1, 0, 7)
	ask(t, f, g, l, 0, 0, 7)
	made(t, f, 2)
	ask(t, f, g, l, 2, 0, 7)
	made(t, f, 3)
	ask(t, f, g, l, 0, 0, 7) // class 1 was used least recently
	made(t, f, 3)
	ask(t, f, g, l, 1, 0, 7)
	made(t, f, 4)
	f.Forget()
	made(t, f, 4)
	ask(t, f, g, l, 1, 0, 7)
	made(t, f, 5)
}

// R4: a call that is refused changes nothing.
func TestRefused(t *testing.T) {
	g, l := land(12, 10, 3)
	f := opened(t, 1)
	ask(t, f, g, l, 0, 0, 7)
	for _, c := range [][3]int{{-1, 0, 7}, {3, 0, 7}, {0, -1, 7}, {0, 4, 7}, {0, 0, -1}, {0, 0, 120}, {0, 0, 1 << 14}, {math.MaxInt, math.MaxInt, math.MaxInt}, {math.MinInt, math.MinInt, math.MinInt}, {1, 0, 120}} {
		ask(t, f, g, l, c[0], c[1], c[2])
	}
	ask(t, f, api.Ground{}, nil, 0, 0, 0)
	ask(t, f, g, append(slices.Clone(l), l[0]), 0, 0, 7)
	made(t, f, 1)
	ask(t, f, g, l, 0, 0, 7)
	made(t, f, 1)
}

// R2: neither what was asked nor what was answered is kept.
func TestNothingShared(t *testing.T) {
	g, l := land(12, 10, 4)
	f := opened(t, 3)
	ask(t, f, g, l, 0, 0, 9)
	got, _ := f.Dirs(g, l, 0, 0, 9)
	clear(got[:cap(got)])
	ask(t, f, g, l, 0, 0, 9)
	made(t, f, 1)
	kept := bytes.Clone(g.Tiles)
	for i := range g.Tiles {
		g.Tiles[i] = api.Plain
	}
	ask(t, f, g, l, 0, 0, 9)
	l[0].X = 8
	ask(t, f, g, l, 0, 0, 9)
	copy(g.Tiles, kept)
	ask(t, f, g, nil, 0, 0, 9)
	made(t, f, 4)
}

// R1: an object that New did not make.
func TestZero(t *testing.T) {
	g, l := land(12, 10, 4)
	var f fields.Fields
	ask(t, &f, g, l, 0, 0, 9)
	f.Forget()
	ask(t, &f, g, l, 0, 0, 9)
	ask(t, &f, api.Ground{}, nil, 0, 0, 0)
}
