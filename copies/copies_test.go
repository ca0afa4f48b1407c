package copies_test

import (
	"reflect"
	"testing"

	"throng/api"
	"throng/copies"
)

func commands() []api.Command {
	return []api.Command{{Player: 1, Kind: api.CmdStop, Units: []int{1, 2}}, {Player: 1, Seq: 1, Kind: api.CmdDrop, N: 3}}
}

func inputs() []api.Input {
	return []api.Input{{Turn: 4, Player: 1, Commands: commands()}, {Turn: 5, Player: 2, Commands: commands()}}
}

func world() api.World {
	return api.World{Tick: 3, Players: 2, NextID: 9, Ground: api.Ground{W: 2, H: 1, Tiles: []byte{1, 2}},
		Buildings: []api.Building{{ID: 1}, {ID: 2}}, Units: []api.Unit{{ID: 3}, {ID: 4}}}
}

func peer() api.Peer {
	return api.Peer{ID: 1, Mine: inputs(), Inputs: inputs(), Has: []int{1, 2}, Acked: []int{3, 4}, Hashes: []uint64{5, 6}}
}

// spoil changes everything that the lists within v hold.
func spoil(v reflect.Value) {
	switch v.Kind() {
	case reflect.Struct:
		for i := range v.NumField() {
			if v.Field(i).Kind() == reflect.Slice || v.Field(i).Kind() == reflect.Struct {
				spoil(v.Field(i))
			}
		}
	case reflect.Slice:
		for i := range v.Len() {
			spoil(v.Index(i))
			v.Index(i).SetZero()
		}
	}
}

func TestCopies(t *testing.T) {
	c, i, l, w, p := commands(), inputs()[0], inputs(), world(), peer()
	for n, x := range []struct{ copied, of, want any }{
		{copies.Commands(c), c, commands()}, {copies.Input(i), i, inputs()[0]}, {copies.Inputs(l), l, inputs()},
		{copies.Ground(w.Ground), w.Ground, world().Ground}, {copies.World(w), w, world()}, {copies.Peer(p), p, peer()},
	} {
		if !reflect.DeepEqual(x.copied, x.want) {
			t.Errorf("copy %d is %v, want %v", n, x.copied, x.want)
		}
		if spoil(reflect.ValueOf(x.copied)); !reflect.DeepEqual(x.of, x.want) {
			t.Errorf("copy %d shares something: %v, want %v", n, x.of, x.want)
		}
	}
}

func TestEmpty(t *testing.T) {
	if len(copies.Commands(nil)) > 0 || len(copies.Inputs(nil)) > 0 || len(copies.World(api.World{}).Units) > 0 || len(copies.Peer(api.Peer{}).Has) > 0 {
		t.Error("a copy of nothing holds something")
	}
}
