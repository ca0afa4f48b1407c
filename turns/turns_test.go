package turns_test

import (
	"math"
	"slices"
	"testing"

	"throng/api"
	"throng/copies"
	"throng/sample"
	"throng/turns"
)

// stop returns a command of player with this Seq.
func stop(player, seq int) api.Command {
	return api.Command{Kind: api.CmdStop, Player: player, Seq: seq, Units: []int{1000 + seq%9, 2000}}
}

// input returns an input with commands of these Seqs.
func input(turn, player int, seqs ...int) api.Input {
	i := api.Input{Turn: turn, Player: player}
	for _, seq := range seqs {
		i.Commands = append(i.Commands, stop(player, seq))
	}
	return i
}

func equal(a, b []api.Input) bool {
	return slices.EqualFunc(a, b, func(a, b api.Input) bool {
		return a.Turn == b.Turn && a.Player == b.Player && sample.SameCommands(a.Commands, b.Commands)
	})
}

// many returns an input with n commands.
func many(n int) api.Input {
	i := api.Input{Turn: 5, Player: 2}
	for seq := range n {
		i.Commands = append(i.Commands, stop(2, seq*3))
	}
	return i
}

// good returns valid inputs.
func good() []api.Input {
	return []api.Input{input(0, 1), input(api.MaxTicks, 8, 0, 1, api.MaxTicks), input(7, 3, 5), many(api.MaxTurn)}
}

// bad returns inputs that are not valid.
func bad() []api.Input {
	wrong, other := input(4, 2, 1, 2), input(4, 2, 1, 2)
	wrong.Commands[1].Units = nil
	other.Commands[1].Player = 1
	return []api.Input{{}, input(-1, 1), input(api.MaxTicks+1, 1), input(math.MinInt, 1), input(0, 0), input(0, 9), input(0, math.MaxInt), input(4, 2, 1, 1), input(4, 2, 2, 1), input(4, 2, -1), input(4, 2, api.MaxTicks+1),
		wrong, other, many(api.MaxTurn + 1)}
}

// P27.1
func TestCheck(t *testing.T) {
	for _, i := range good() {
		if e := turns.Check(i); e != api.OK {
			t.Errorf("Check(%v) %d", i, e)
		}
	}
	for _, i := range bad() {
		if e := turns.Check(i); e != api.ErrForm {
			t.Errorf("Check(%v) %d", i, e)
		}
		for _, l := range [][]api.Input{{i}, {input(0, 1), i}, {i, input(api.MaxTicks, 8)}} {
			if r, e := turns.Merge(l); len(r) > 0 || e != api.ErrForm {
				t.Errorf("Merge(%v) %v, %d", l, r, e)
			}
			if r, e := turns.Put(l, input(3, 3)); len(r) > 0 || e != api.ErrForm {
				t.Errorf("Put into %v: %v, %d", l, r, e)
			}
			if a, b, e := turns.Take(l, 3); len(a) > 0 || len(b) > 0 || e != api.ErrForm {
				t.Errorf("Take(%v) %v, %v, %d", l, a, b, e)
			}
		}
		if r, e := turns.Put(good()[:1], i); len(r) > 0 || e != api.ErrForm {
			t.Errorf("Put(%v) %v, %d", i, r, e)
		}
	}
}

// P27.1, P27.2
func TestMerge(t *testing.T) {
	l := []api.Input{input(4, 7, 1, 9), input(4, 2, 3, 8), input(4, 3), input(4, 1, 2, 7)}
	want := []api.Command{stop(1, 2), stop(1, 7), stop(2, 3), stop(2, 8), stop(7, 1), stop(7, 9)}
	for range 4 {
		for i := range 3 {
			l[i], l[i+1] = l[i+1], l[i]
			kept := copies.Inputs(l)
			r, e := turns.Merge(l)
			if e != api.OK || !sample.SameCommands(r, want) {
				t.Errorf("Merge(%v) %v, %d", l, r, e)
			}
			clear(r[0].Units)
			clear(r[:cap(r)])
			if !equal(l, kept) {
				t.Fatal("Merge changed, or handed out, what it was given")
			}
		}
	}
	if r, e := turns.Merge(nil); len(r) > 0 || e != api.OK {
		t.Errorf("Merge of nothing: %v, %d", r, e)
	}
	for _, l := range [][]api.Input{{input(4, 1), input(5, 2)}, {input(4, 1), input(4, 2), input(4, 1, 6)}, {input(5, 2), input(4, 1), input(5, 3)}} {
		if r, e := turns.Merge(l); len(r) > 0 || e != api.ErrForm {
			t.Errorf("Merge(%v) %v, %d", l, r, e)
		}
	}
}

// list returns an ordered list.
func list() []api.Input {
	return []api.Input{input(0, 8, 3), input(2, 1), input(2, 5, 1, 2), input(9, 3, 4), input(api.MaxTicks, 1)}
}

// P27.1, P27.2
func TestPut(t *testing.T) {
	for at, i := range []api.Input{input(0, 7, 1), input(1, 8), input(2, 3, 6), input(4, 2), input(10, 1), input(api.MaxTicks, 2)} {
		r, e := turns.Put(list(), i)
		if want := slices.Insert(list(), at, i); e != api.OK || !equal(r, want) {
			t.Errorf("Put(%v) %v, %d", i, r, e)
		}
	}
	if r, e := turns.Put(nil, input(3, 4, 5)); e != api.OK || !equal(r, []api.Input{input(3, 4, 5)}) {
		t.Errorf("Put into nothing: %v, %d", r, e)
	}
	for _, i := range list() {
		i.Commands = nil
		if r, e := turns.Put(list(), i); len(r) > 0 || e != api.ErrOverlap {
			t.Errorf("Put(%v) %v, %d", i, r, e)
		}
	}
	for _, l := range [][]api.Input{{input(2, 2), input(2, 1)}, {input(3, 1), input(2, 2)}, {input(2, 2), input(2, 2)}} {
		if r, e := turns.Put(l, input(2, 2)); len(r) > 0 || e != api.ErrForm {
			t.Errorf("Put into %v: %v, %d", l, r, e)
		}
		if a, b, e := turns.Take(l, 2); len(a) > 0 || len(b) > 0 || e != api.ErrForm {
			t.Errorf("Take(%v) %v, %v, %d", l, a, b, e)
		}
	}
	for _, order := range [][]int{{0, 1, 2, 3, 4}, {4, 3, 2, 1, 0}, {2, 4, 0, 3, 1}} {
		var r []api.Input
		for _, n := range order {
			r, _ = turns.Put(r, list()[n])
		}
		if !equal(r, list()) {
			t.Errorf("order %v: %v", order, r)
		}
	}
}

// P27.1
func TestTake(t *testing.T) {
	for turn, at := range map[int][2]int{0: {0, 1}, 1: {1, 1}, 2: {1, 3}, 9: {3, 4}, api.MaxTicks: {4, 5}, -1: {0, 0}, math.MaxInt: {5, 5}} {
		a, b, e := turns.Take(list(), turn)
		if e != api.OK || !equal(a, list()[at[0]:at[1]]) || !equal(b, slices.Delete(list(), at[0], at[1])) {
			t.Errorf("Take(%d) %v, %v, %d", turn, a, b, e)
		}
	}
	if a, b, e := turns.Take(nil, 0); len(a) > 0 || len(b) > 0 || e != api.OK {
		t.Errorf("Take of nothing: %v, %v, %d", a, b, e)
	}
}

// R2
func TestNothingShared(t *testing.T) {
	l, i := list(), input(3, 3, 7)
	r, _ := turns.Put(l, i)
	a, b, _ := turns.Take(l, 2)
	for _, x := range [][]api.Input{r, a, b} {
		for _, y := range x {
			for _, c := range y.Commands {
				clear(c.Units)
			}
			clear(y.Commands)
		}
		clear(x[:cap(x)])
	}
	if !equal(l, list()) || !equal([]api.Input{i}, []api.Input{input(3, 3, 7)}) {
		t.Error("an answer shares something with what was handed in")
	}
}
