import Derived.WalkLawsBesides
import Derived.BigGuardPart
import Derived.Deep.QuietTactic
import Derived.BigQuiet
import Derived.Deep.RegionWith
import Derived.Deep.RegionHeld3
import Derived.Deep.DeepCutAuto
import Derived.Deep.DeepFit
import Derived.Outline
import Derived.Test.YtmphmpfeeiipgaaZtk
import Derived.Test.YtmphmpfeeiipgaaZtj
import Derived.Test.YtmphmpfeeiipgaaZta
import Derived.WalkKit
import Derived.Below
import Derived.Test.YtmphmpfeeiipgaaProg
/- Layer 9: the least number on one side of a tile. -/
namespace Go.Proofs.Ytmphmpfeeiipgaa
open Go.RowKit
set_option linter.unusedVariables false
set_option linter.unusedSimpArgs false
theorem min2_if (x y : Int) : (if y < x then y else x) = min x y := by
  rw [Int.min_def]; split <;> split <;> omega
theorem run_min4 (P : Program) (ts : Array TypeId) (t : TypeId) (w : World) (x y z u : Int) : (Builtin.min_ ts t #[.int .i64 x, .int .i64 y, .int .i64 z, .int .i64 u]).run P w = .ok (.int .i64 (min (min (min x y) z) u)) w := by
  simp [Builtin.min_, Builtin.min2]
  rw [min2_if x y, min2_if (min x y) z, min2_if (min (min x y) z) u]
  simp only [Int.min_def]; split <;> split <;> split <;> (try split) <;> (try split) <;> omega
theorem run_min2 (P : Program) (ts : Array TypeId) (t : TypeId) (w : World) (x y : Int) : (Builtin.min_ ts t #[.int .i64 x, .int .i64 y]).run P w = .ok (.int .i64 (min x y)) w := by
  simp [Builtin.min_, Builtin.min2]
  try rw [min2_if x y]
end Go.Proofs.Ytmphmpfeeiipgaa
/- Layer 9: clear.Grid. -/
namespace Go.Proofs.Ytmphmpfeeiipgaa
open Go.RowKit
set_option linter.unusedVariables false
set_option linter.unusedSimpArgs false
/-- Room above and left of a tile; room at all sides of it. -/
def fC (W H : Int) (f : Nat → Bool) (k : Nat) : Nat := fV W H f ((k : Int) % W) ((k : Int) / W)
def sC (W H : Int) (f : Nat → Bool) (k : Nat) : Nat := sV W H f ((k : Int) % W) ((k : Int) / W)
theorem xy_at' {W x y : Int} {j : Nat} (h : (j : Int) = x + W * y) (x0 : 0 ≤ x) (x1 : x < W) : (j : Int) % W = x ∧ (j : Int) / W = y := by
  rw [h, Int.add_mul_emod_self_left, Int.add_mul_ediv_left _ _ (by omega), Int.emod_eq_of_lt x0 x1, Int.ediv_eq_zero_of_lt x0 x1]
  exact ⟨rfl, by omega⟩
theorem fC_at {W H : Int} {f : Nat → Bool} {x y : Int} {j : Nat} (h : (j : Int) = x + W * y) (x0 : 0 ≤ x) (x1 : x < W) : fC W H f j = fV W H f x y := by
  obtain ⟨h1, h2⟩ := xy_at' h x0 x1
  unfold fC; rw [h1, h2]
theorem sC_at {W H : Int} {f : Nat → Bool} {x y : Int} {j : Nat} (h : (j : Int) = x + W * y) (x0 : 0 ≤ x) (x1 : x < W) : sC W H f j = sV W H f x y := by
  obtain ⟨h1, h2⟩ := xy_at' h x0 x1
  unfold sC; rw [h1, h2]
/-- What a tile's place says. -/
structure At (W H : Int) (n k : Nat) (x y : Int) : Prop where
  e : (k : Int) = x + W * y
  x0 : 0 ≤ x
  x1 : x < W
  y0 : 0 ≤ y
  y1 : y < H
  m : (k : Int) % W = x
  d : (k : Int) / W = y
theorem at_of {W H : Int} {n k : Nat} (w1 : 1 ≤ W) (hn : (n : Int) = W * H) (hk : k < n) : At W H n k ((k : Int) % W) ((k : Int) / W) := by
  have em := Int.emod_add_mul_ediv (k : Int) W
  exact ⟨by omega, Int.emod_nonneg _ (by omega), Int.emod_lt_of_pos _ (by omega), Int.ediv_nonneg (by omega) (by omega), Int.ediv_lt_of_lt_mul (by omega) (by rw [Int.mul_comm]; omega), rfl, rfl⟩
theorem op_at {W H : Int} {n k : Nat} {x y : Int} {f : Nat → Bool} (h : At W H n k x y) : opXY W H f x y = f k := by
  unfold opXY
  rw [decide_eq_true (show 0 ≤ x ∧ x < W ∧ 0 ≤ y ∧ y < H from ⟨h.x0, h.x1, h.y0, h.y1⟩), ← h.e]
  simp
theorem op_out {W H x y : Int} {f : Nat → Bool} (h : ¬ (0 ≤ x ∧ x < W ∧ 0 ≤ y ∧ y < H)) : opXY W H f x y = false := by
  unfold opXY; rw [decide_eq_false h]; rfl
/-- The least of the four above and left; below and right. -/
def uL (W H : Int) (f : Nat → Bool) (x y : Int) : Nat := min (min (min (fV W H f (x - 1) y) (fV W H f (x - 1) (y - 1))) (fV W H f x (y - 1))) (fV W H f (x + 1) (y - 1))
def dL (W H : Int) (f : Nat → Bool) (x y : Int) : Nat := min (min (min (sV W H f (x + 1) y) (sV W H f (x - 1) (y + 1))) (sV W H f x (y + 1))) (sV W H f (x + 1) (y + 1))
theorem uL_edge {W H : Int} {f : Nat → Bool} (hW : W ≤ 128) {x y : Int} (x0 : 0 ≤ x) (h : x = 0 ∨ x = W - 1 ∨ y = 0) : uL W H f x y = 0 := by
  unfold uL
  rcases h with h | h | h
  · rw [fV_no hW (x := x - 1) (y := y) (op_out (by omega))]; simp
  · rw [fV_no hW (x := x + 1) (y := y - 1) (op_out (by omega))]; simp
  · rw [fV_no hW (x := x) (y := y - 1) (op_out (by omega))]; simp
theorem dL_edge {W H : Int} {f : Nat → Bool} (hW : W ≤ 128) {x y : Int} (x0 : 0 ≤ x) (h : x = 0 ∨ x = W - 1 ∨ y = H - 1) : dL W H f x y = 0 := by
  unfold dL
  rcases h with h | h | h
  · rw [sV_no hW (x := x - 1) (y := y + 1) (op_out (by omega))]; simp
  · rw [sV_no hW (x := x + 1) (y := y) (op_out (by omega))]; simp
  · rw [sV_no hW (x := x) (y := y + 1) (op_out (by omega))]; simp
end Go.Proofs.Ytmphmpfeeiipgaa
/- Layer 9: clear.Grid, walked. -/
namespace Go.Proofs.Ytmphmpfeeiipgaa
open Go.RowKit
set_option linter.unusedVariables false
set_option linter.unusedSimpArgs false
end Go.Proofs.Ytmphmpfeeiipgaa
/- Arguments that hold slices of numbers, of ways, of bytes: what is known of them. -/
namespace Go.Proofs.Ytmphmpfeeiipgaa
open Go.ChangeShapes Go.WideShapes Go.ChangeAt Go.RowKit Go.Deep
set_option linter.unusedVariables false
theorem i64q_of_wf {n : Int} (h : (Lit.int .i64 n).wf = true) : I64' n := by
  have := bounds_i64 h
  unfold I64'; omega
theorem vecq_of {H : Type} {enc : TypeId × Value → H} {w : World} {base : Nat} {spare : Nat → Bool} {held : Bool} {fuel : Nat} {x : DataW H × List MemPlace} {c0 c1 : Value}
    (hf : DataW.trod enc Try.prog w base spare held fuel 56 [c0, c1] = some x) : ∃ x y : Int, c0 = .int .i64 x ∧ c1 = .int .i64 y ∧ I64' x ∧ I64' y := by
  have h2 : Try.prog.cellsOf 2 = 1 := by kernel_rfl
  obtain ⟨ys, n', _, _, _, hyl, hg⟩ := DataW.trod_struct Try.underlying56 hf
  match ys, hyl with
  | [y0, y1], _ =>
    have g0 := hg 0 _ rfl
    have g1 := hg 1 _ rfl
    simp [h2] at g0 g1
    obtain ⟨x0, e0, _, w0⟩ := DataW.trod_int Try.underlying2 g0
    obtain ⟨x1, e1, _, w1⟩ := DataW.trod_int Try.underlying2 g1
    simp at e0 e1
    exact ⟨x0, x1, e0, e1, i64q_of_wf w0, i64q_of_wf w1⟩

/-- The slice's n elements are the ways (f k, g k). -/
structure Vq (w : World) (B : Nat) (a : Option Addr) (n : Nat) (f g : Nat → Int) : Prop where
  num : ∀ k, k < n → I64' (f k) ∧ I64' (g k)
  rd : 0 < n → ∃ b off, a = some ⟨b, off, none⟩ ∧ b < B ∧ ∀ k, k < n → w.cell? ⟨b, off + k * 2, none⟩ = some (.int .i64 (f k)) ∧ w.cell? ⟨b, off + k * 2 + 1, none⟩ = some (.int .i64 (g k))
theorem Vq.nil (w : World) (B : Nat) (a : Option Addr) (f g : Nat → Int) : Vq w B a 0 f g := ⟨fun k h => absurd h (by omega), fun h => absurd h (by omega)⟩
theorem Vq.below {w w' : World} {B B' n : Nat} {a : Option Addr} {f g : Nat → Int} (h : Vq w B a n f g) (hb : Below B' w w') (hB : B ≤ B') : Vq w' B a n f g := ⟨h.num, fun hn => by
  obtain ⟨b, off, e, hlt, hc⟩ := h.rd hn
  exact ⟨b, off, e, hlt, fun k hk => ⟨(hb.cell (p := ⟨b, off + k * 2, none⟩) (Nat.lt_of_lt_of_le hlt hB)).trans (hc k hk).1, (hb.cell (p := ⟨b, off + k * 2 + 1, none⟩) (Nat.lt_of_lt_of_le hlt hB)).trans (hc k hk).2⟩⟩⟩
theorem Vq.mono {w : World} {B B' n : Nat} {a : Option Addr} {f g : Nat → Int} (h : Vq w B a n f g) (hB : B ≤ B') : Vq w B' a n f g := ⟨h.num, fun hn => by
  obtain ⟨b, off, e, hlt, hc⟩ := h.rd hn
  exact ⟨b, off, e, by omega, hc⟩⟩
end Go.Proofs.Ytmphmpfeeiipgaa
/- The argument of the statements of layer 6: a ground, tiles, places. -/
namespace Go.Proofs.Ytmphmpfeeiipgaa
open Go.ChangeShapes Go.WideShapes Go.ChangeAt Go.RowKit Go.Deep
set_option linter.unusedVariables false
def Asks6 (w : World) (v : Value) : Prop := ∃ (W H : Int) (a : Option Addr) (n c : Nat) (xs : List Int) (ta : Option Addr) (tn tc : Nat) (ts : List Int) (pa : Option Addr) (pn pc : Nat) (f g : Nat → Int),
  v = .agg #[.int .i64 W, .int .i64 H, .slice a n c, .slice ta tn tc, .slice pa pn pc] ∧ I64' W ∧ I64' H ∧ n ≤ 9223372036854775807 ∧ tn ≤ 9223372036854775807 ∧ pn ≤ 9223372036854775807 ∧ By w w.heap.size a n xs ∧ Nq w w.heap.size ta tn ts ∧ Vq w w.heap.size pa pn f g
theorem hsz_of {w X : World} {o : Obj} (h : Below (w.heap.size + 1) (w.alloc o) X) : w.heap.size + 1 ≤ X.heap.size := by simpa using h.size
def heavyB (n tn pn : Nat) : Bool := decide (20000 < n ∨ 60 < tn ∨ 60 < pn)
end Go.Proofs.Ytmphmpfeeiipgaa
/- A call that makes memory leaves cells, wherever they lie, as they were. -/
namespace Go.Proofs.Ytmphmpfeeiipgaa
open Go.RowKit
set_option linter.unusedVariables false
theorem hold1 {P : Program} {F : FuncId} {args : Array Value} {w w0 : World} {r : Ending} {B b1 o1 : Nat} {x1 : Value} (h : Calls P F args w fun e w' => e = r ∧ Below w.heap.size w w')
    (hB : Below B w0 w) (hs : B ≤ w.heap.size) (d1 : w.cell? ⟨b1, o1, none⟩ = some x1) :
    Calls P F args w fun e w' => e = r ∧ w'.cell? ⟨b1, o1, none⟩ = some x1 ∧ Below B w0 w' :=
  h.mono fun e w' ⟨h1, h2⟩ => ⟨h1, (h2.cell (p := ⟨b1, o1, none⟩) (World.block_lt_of_cell? _ _ d1)).trans d1, hB.trans (h2.mono hs)⟩
theorem hold2 {P : Program} {F : FuncId} {args : Array Value} {w w0 : World} {r : Ending} {B b1 o1 b2 o2 : Nat} {x1 x2 : Value} (h : Calls P F args w fun e w' => e = r ∧ Below w.heap.size w w')
    (hB : Below B w0 w) (hs : B ≤ w.heap.size) (d1 : w.cell? ⟨b1, o1, none⟩ = some x1) (d2 : w.cell? ⟨b2, o2, none⟩ = some x2) :
    Calls P F args w fun e w' => e = r ∧ w'.cell? ⟨b1, o1, none⟩ = some x1 ∧ w'.cell? ⟨b2, o2, none⟩ = some x2 ∧ Below B w0 w' :=
  h.mono fun e w' ⟨h1, h2⟩ => ⟨h1, (h2.cell (p := ⟨b1, o1, none⟩) (World.block_lt_of_cell? _ _ d1)).trans d1, (h2.cell (p := ⟨b2, o2, none⟩) (World.block_lt_of_cell? _ _ d2)).trans d2, hB.trans (h2.mono hs)⟩
theorem hold3 {P : Program} {F : FuncId} {args : Array Value} {w w0 : World} {r : Ending} {B b1 o1 b2 o2 b3 o3 : Nat} {x1 x2 x3 : Value} (h : Calls P F args w fun e w' => e = r ∧ Below w.heap.size w w')
    (hB : Below B w0 w) (hs : B ≤ w.heap.size) (d1 : w.cell? ⟨b1, o1, none⟩ = some x1) (d2 : w.cell? ⟨b2, o2, none⟩ = some x2) (d3 : w.cell? ⟨b3, o3, none⟩ = some x3) :
    Calls P F args w fun e w' => e = r ∧ w'.cell? ⟨b1, o1, none⟩ = some x1 ∧ w'.cell? ⟨b2, o2, none⟩ = some x2 ∧ w'.cell? ⟨b3, o3, none⟩ = some x3 ∧ Below B w0 w' :=
  h.mono fun e w' ⟨h1, h2⟩ => ⟨h1, (h2.cell (p := ⟨b1, o1, none⟩) (World.block_lt_of_cell? _ _ d1)).trans d1, (h2.cell (p := ⟨b2, o2, none⟩) (World.block_lt_of_cell? _ _ d2)).trans d2, (h2.cell (p := ⟨b3, o3, none⟩) (World.block_lt_of_cell? _ _ d3)).trans d3, hB.trans (h2.mono hs)⟩
theorem hold4 {P : Program} {F : FuncId} {args : Array Value} {w w0 : World} {r : Ending} {B b1 o1 b2 o2 b3 o3 b4 o4 : Nat} {x1 x2 x3 x4 : Value} (h : Calls P F args w fun e w' => e = r ∧ Below w.heap.size w w')
    (hB : Below B w0 w) (hs : B ≤ w.heap.size) (d1 : w.cell? ⟨b1, o1, none⟩ = some x1) (d2 : w.cell? ⟨b2, o2, none⟩ = some x2) (d3 : w.cell? ⟨b3, o3, none⟩ = some x3) (d4 : w.cell? ⟨b4, o4, none⟩ = some x4) :
    Calls P F args w fun e w' => e = r ∧ w'.cell? ⟨b1, o1, none⟩ = some x1 ∧ w'.cell? ⟨b2, o2, none⟩ = some x2 ∧ w'.cell? ⟨b3, o3, none⟩ = some x3 ∧ w'.cell? ⟨b4, o4, none⟩ = some x4 ∧ Below B w0 w' :=
  h.mono fun e w' ⟨h1, h2⟩ => ⟨h1, (h2.cell (p := ⟨b1, o1, none⟩) (World.block_lt_of_cell? _ _ d1)).trans d1, (h2.cell (p := ⟨b2, o2, none⟩) (World.block_lt_of_cell? _ _ d2)).trans d2, (h2.cell (p := ⟨b3, o3, none⟩) (World.block_lt_of_cell? _ _ d3)).trans d3, (h2.cell (p := ⟨b4, o4, none⟩) (World.block_lt_of_cell? _ _ d4)).trans d4, hB.trans (h2.mono hs)⟩
theorem hold5 {P : Program} {F : FuncId} {args : Array Value} {w w0 : World} {r : Ending} {B b1 o1 b2 o2 b3 o3 b4 o4 b5 o5 : Nat} {x1 x2 x3 x4 x5 : Value} (h : Calls P F args w fun e w' => e = r ∧ Below w.heap.size w w')
    (hB : Below B w0 w) (hs : B ≤ w.heap.size) (d1 : w.cell? ⟨b1, o1, none⟩ = some x1) (d2 : w.cell? ⟨b2, o2, none⟩ = some x2) (d3 : w.cell? ⟨b3, o3, none⟩ = some x3) (d4 : w.cell? ⟨b4, o4, none⟩ = some x4) (d5 : w.cell? ⟨b5, o5, none⟩ = some x5) :
    Calls P F args w fun e w' => e = r ∧ w'.cell? ⟨b1, o1, none⟩ = some x1 ∧ w'.cell? ⟨b2, o2, none⟩ = some x2 ∧ w'.cell? ⟨b3, o3, none⟩ = some x3 ∧ w'.cell? ⟨b4, o4, none⟩ = some x4 ∧ w'.cell? ⟨b5, o5, none⟩ = some x5 ∧ Below B w0 w' :=
  h.mono fun e w' ⟨h1, h2⟩ => ⟨h1, (h2.cell (p := ⟨b1, o1, none⟩) (World.block_lt_of_cell? _ _ d1)).trans d1, (h2.cell (p := ⟨b2, o2, none⟩) (World.block_lt_of_cell? _ _ d2)).trans d2, (h2.cell (p := ⟨b3, o3, none⟩) (World.block_lt_of_cell? _ _ d3)).trans d3, (h2.cell (p := ⟨b4, o4, none⟩) (World.block_lt_of_cell? _ _ d4)).trans d4, (h2.cell (p := ⟨b5, o5, none⟩) (World.block_lt_of_cell? _ _ d5)).trans d5, hB.trans (h2.mono hs)⟩
theorem hold6 {P : Program} {F : FuncId} {args : Array Value} {w w0 : World} {r : Ending} {B b1 o1 b2 o2 b3 o3 b4 o4 b5 o5 b6 o6 : Nat} {x1 x2 x3 x4 x5 x6 : Value} (h : Calls P F args w fun e w' => e = r ∧ Below w.heap.size w w')
    (hB : Below B w0 w) (hs : B ≤ w.heap.size) (d1 : w.cell? ⟨b1, o1, none⟩ = some x1) (d2 : w.cell? ⟨b2, o2, none⟩ = some x2) (d3 : w.cell? ⟨b3, o3, none⟩ = some x3) (d4 : w.cell? ⟨b4, o4, none⟩ = some x4) (d5 : w.cell? ⟨b5, o5, none⟩ = some x5) (d6 : w.cell? ⟨b6, o6, none⟩ = some x6) :
    Calls P F args w fun e w' => e = r ∧ w'.cell? ⟨b1, o1, none⟩ = some x1 ∧ w'.cell? ⟨b2, o2, none⟩ = some x2 ∧ w'.cell? ⟨b3, o3, none⟩ = some x3 ∧ w'.cell? ⟨b4, o4, none⟩ = some x4 ∧ w'.cell? ⟨b5, o5, none⟩ = some x5 ∧ w'.cell? ⟨b6, o6, none⟩ = some x6 ∧ Below B w0 w' :=
  h.mono fun e w' ⟨h1, h2⟩ => ⟨h1, (h2.cell (p := ⟨b1, o1, none⟩) (World.block_lt_of_cell? _ _ d1)).trans d1, (h2.cell (p := ⟨b2, o2, none⟩) (World.block_lt_of_cell? _ _ d2)).trans d2, (h2.cell (p := ⟨b3, o3, none⟩) (World.block_lt_of_cell? _ _ d3)).trans d3, (h2.cell (p := ⟨b4, o4, none⟩) (World.block_lt_of_cell? _ _ d4)).trans d4, (h2.cell (p := ⟨b5, o5, none⟩) (World.block_lt_of_cell? _ _ d5)).trans d5, (h2.cell (p := ⟨b6, o6, none⟩) (World.block_lt_of_cell? _ _ d6)).trans d6, hB.trans (h2.mono hs)⟩
theorem hold7 {P : Program} {F : FuncId} {args : Array Value} {w w0 : World} {r : Ending} {B b1 o1 b2 o2 b3 o3 b4 o4 b5 o5 b6 o6 b7 o7 : Nat} {x1 x2 x3 x4 x5 x6 x7 : Value} (h : Calls P F args w fun e w' => e = r ∧ Below w.heap.size w w')
    (hB : Below B w0 w) (hs : B ≤ w.heap.size) (d1 : w.cell? ⟨b1, o1, none⟩ = some x1) (d2 : w.cell? ⟨b2, o2, none⟩ = some x2) (d3 : w.cell? ⟨b3, o3, none⟩ = some x3) (d4 : w.cell? ⟨b4, o4, none⟩ = some x4) (d5 : w.cell? ⟨b5, o5, none⟩ = some x5) (d6 : w.cell? ⟨b6, o6, none⟩ = some x6) (d7 : w.cell? ⟨b7, o7, none⟩ = some x7) :
    Calls P F args w fun e w' => e = r ∧ w'.cell? ⟨b1, o1, none⟩ = some x1 ∧ w'.cell? ⟨b2, o2, none⟩ = some x2 ∧ w'.cell? ⟨b3, o3, none⟩ = some x3 ∧ w'.cell? ⟨b4, o4, none⟩ = some x4 ∧ w'.cell? ⟨b5, o5, none⟩ = some x5 ∧ w'.cell? ⟨b6, o6, none⟩ = some x6 ∧ w'.cell? ⟨b7, o7, none⟩ = some x7 ∧ Below B w0 w' :=
  h.mono fun e w' ⟨h1, h2⟩ => ⟨h1, (h2.cell (p := ⟨b1, o1, none⟩) (World.block_lt_of_cell? _ _ d1)).trans d1, (h2.cell (p := ⟨b2, o2, none⟩) (World.block_lt_of_cell? _ _ d2)).trans d2, (h2.cell (p := ⟨b3, o3, none⟩) (World.block_lt_of_cell? _ _ d3)).trans d3, (h2.cell (p := ⟨b4, o4, none⟩) (World.block_lt_of_cell? _ _ d4)).trans d4, (h2.cell (p := ⟨b5, o5, none⟩) (World.block_lt_of_cell? _ _ d5)).trans d5, (h2.cell (p := ⟨b6, o6, none⟩) (World.block_lt_of_cell? _ _ d6)).trans d6, (h2.cell (p := ⟨b7, o7, none⟩) (World.block_lt_of_cell? _ _ d7)).trans d7, hB.trans (h2.mono hs)⟩
theorem hold8 {P : Program} {F : FuncId} {args : Array Value} {w w0 : World} {r : Ending} {B b1 o1 b2 o2 b3 o3 b4 o4 b5 o5 b6 o6 b7 o7 b8 o8 : Nat} {x1 x2 x3 x4 x5 x6 x7 x8 : Value} (h : Calls P F args w fun e w' => e = r ∧ Below w.heap.size w w')
    (hB : Below B w0 w) (hs : B ≤ w.heap.size) (d1 : w.cell? ⟨b1, o1, none⟩ = some x1) (d2 : w.cell? ⟨b2, o2, none⟩ = some x2) (d3 : w.cell? ⟨b3, o3, none⟩ = some x3) (d4 : w.cell? ⟨b4, o4, none⟩ = some x4) (d5 : w.cell? ⟨b5, o5, none⟩ = some x5) (d6 : w.cell? ⟨b6, o6, none⟩ = some x6) (d7 : w.cell? ⟨b7, o7, none⟩ = some x7) (d8 : w.cell? ⟨b8, o8, none⟩ = some x8) :
    Calls P F args w fun e w' => e = r ∧ w'.cell? ⟨b1, o1, none⟩ = some x1 ∧ w'.cell? ⟨b2, o2, none⟩ = some x2 ∧ w'.cell? ⟨b3, o3, none⟩ = some x3 ∧ w'.cell? ⟨b4, o4, none⟩ = some x4 ∧ w'.cell? ⟨b5, o5, none⟩ = some x5 ∧ w'.cell? ⟨b6, o6, none⟩ = some x6 ∧ w'.cell? ⟨b7, o7, none⟩ = some x7 ∧ w'.cell? ⟨b8, o8, none⟩ = some x8 ∧ Below B w0 w' :=
  h.mono fun e w' ⟨h1, h2⟩ => ⟨h1, (h2.cell (p := ⟨b1, o1, none⟩) (World.block_lt_of_cell? _ _ d1)).trans d1, (h2.cell (p := ⟨b2, o2, none⟩) (World.block_lt_of_cell? _ _ d2)).trans d2, (h2.cell (p := ⟨b3, o3, none⟩) (World.block_lt_of_cell? _ _ d3)).trans d3, (h2.cell (p := ⟨b4, o4, none⟩) (World.block_lt_of_cell? _ _ d4)).trans d4, (h2.cell (p := ⟨b5, o5, none⟩) (World.block_lt_of_cell? _ _ d5)).trans d5, (h2.cell (p := ⟨b6, o6, none⟩) (World.block_lt_of_cell? _ _ d6)).trans d6, (h2.cell (p := ⟨b7, o7, none⟩) (World.block_lt_of_cell? _ _ d7)).trans d7, (h2.cell (p := ⟨b8, o8, none⟩) (World.block_lt_of_cell? _ _ d8)).trans d8, hB.trans (h2.mono hs)⟩
theorem hold9 {P : Program} {F : FuncId} {args : Array Value} {w w0 : World} {r : Ending} {B b1 o1 b2 o2 b3 o3 b4 o4 b5 o5 b6 o6 b7 o7 b8 o8 b9 o9 : Nat} {x1 x2 x3 x4 x5 x6 x7 x8 x9 : Value} (h : Calls P F args w fun e w' => e = r ∧ Below w.heap.size w w')
    (hB : Below B w0 w) (hs : B ≤ w.heap.size) (d1 : w.cell? ⟨b1, o1, none⟩ = some x1) (d2 : w.cell? ⟨b2, o2, none⟩ = some x2) (d3 : w.cell? ⟨b3, o3, none⟩ = some x3) (d4 : w.cell? ⟨b4, o4, none⟩ = some x4) (d5 : w.cell? ⟨b5, o5, none⟩ = some x5) (d6 : w.cell? ⟨b6, o6, none⟩ = some x6) (d7 : w.cell? ⟨b7, o7, none⟩ = some x7) (d8 : w.cell? ⟨b8, o8, none⟩ = some x8) (d9 : w.cell? ⟨b9, o9, none⟩ = some x9) :
    Calls P F args w fun e w' => e = r ∧ w'.cell? ⟨b1, o1, none⟩ = some x1 ∧ w'.cell? ⟨b2, o2, none⟩ = some x2 ∧ w'.cell? ⟨b3, o3, none⟩ = some x3 ∧ w'.cell? ⟨b4, o4, none⟩ = some x4 ∧ w'.cell? ⟨b5, o5, none⟩ = some x5 ∧ w'.cell? ⟨b6, o6, none⟩ = some x6 ∧ w'.cell? ⟨b7, o7, none⟩ = some x7 ∧ w'.cell? ⟨b8, o8, none⟩ = some x8 ∧ w'.cell? ⟨b9, o9, none⟩ = some x9 ∧ Below B w0 w' :=
  h.mono fun e w' ⟨h1, h2⟩ => ⟨h1, (h2.cell (p := ⟨b1, o1, none⟩) (World.block_lt_of_cell? _ _ d1)).trans d1, (h2.cell (p := ⟨b2, o2, none⟩) (World.block_lt_of_cell? _ _ d2)).trans d2, (h2.cell (p := ⟨b3, o3, none⟩) (World.block_lt_of_cell? _ _ d3)).trans d3, (h2.cell (p := ⟨b4, o4, none⟩) (World.block_lt_of_cell? _ _ d4)).trans d4, (h2.cell (p := ⟨b5, o5, none⟩) (World.block_lt_of_cell? _ _ d5)).trans d5, (h2.cell (p := ⟨b6, o6, none⟩) (World.block_lt_of_cell? _ _ d6)).trans d6, (h2.cell (p := ⟨b7, o7, none⟩) (World.block_lt_of_cell? _ _ d7)).trans d7, (h2.cell (p := ⟨b8, o8, none⟩) (World.block_lt_of_cell? _ _ d8)).trans d8, (h2.cell (p := ⟨b9, o9, none⟩) (World.block_lt_of_cell? _ _ d9)).trans d9, hB.trans (h2.mono hs)⟩
theorem hold10 {P : Program} {F : FuncId} {args : Array Value} {w w0 : World} {r : Ending} {B b1 o1 b2 o2 b3 o3 b4 o4 b5 o5 b6 o6 b7 o7 b8 o8 b9 o9 b10 o10 : Nat} {x1 x2 x3 x4 x5 x6 x7 x8 x9 x10 : Value} (h : Calls P F args w fun e w' => e = r ∧ Below w.heap.size w w')
    (hB : Below B w0 w) (hs : B ≤ w.heap.size) (d1 : w.cell? ⟨b1, o1, none⟩ = some x1) (d2 : w.cell? ⟨b2, o2, none⟩ = some x2) (d3 : w.cell? ⟨b3, o3, none⟩ = some x3) (d4 : w.cell? ⟨b4, o4, none⟩ = some x4) (d5 : w.cell? ⟨b5, o5, none⟩ = some x5) (d6 : w.cell? ⟨b6, o6, none⟩ = some x6) (d7 : w.cell? ⟨b7, o7, none⟩ = some x7) (d8 : w.cell? ⟨b8, o8, none⟩ = some x8) (d9 : w.cell? ⟨b9, o9, none⟩ = some x9) (d10 : w.cell? ⟨b10, o10, none⟩ = some x10) :
    Calls P F args w fun e w' => e = r ∧ w'.cell? ⟨b1, o1, none⟩ = some x1 ∧ w'.cell? ⟨b2, o2, none⟩ = some x2 ∧ w'.cell? ⟨b3, o3, none⟩ = some x3 ∧ w'.cell? ⟨b4, o4, none⟩ = some x4 ∧ w'.cell? ⟨b5, o5, none⟩ = some x5 ∧ w'.cell? ⟨b6, o6, none⟩ = some x6 ∧ w'.cell? ⟨b7, o7, none⟩ = some x7 ∧ w'.cell? ⟨b8, o8, none⟩ = some x8 ∧ w'.cell? ⟨b9, o9, none⟩ = some x9 ∧ w'.cell? ⟨b10, o10, none⟩ = some x10 ∧ Below B w0 w' :=
  h.mono fun e w' ⟨h1, h2⟩ => ⟨h1, (h2.cell (p := ⟨b1, o1, none⟩) (World.block_lt_of_cell? _ _ d1)).trans d1, (h2.cell (p := ⟨b2, o2, none⟩) (World.block_lt_of_cell? _ _ d2)).trans d2, (h2.cell (p := ⟨b3, o3, none⟩) (World.block_lt_of_cell? _ _ d3)).trans d3, (h2.cell (p := ⟨b4, o4, none⟩) (World.block_lt_of_cell? _ _ d4)).trans d4, (h2.cell (p := ⟨b5, o5, none⟩) (World.block_lt_of_cell? _ _ d5)).trans d5, (h2.cell (p := ⟨b6, o6, none⟩) (World.block_lt_of_cell? _ _ d6)).trans d6, (h2.cell (p := ⟨b7, o7, none⟩) (World.block_lt_of_cell? _ _ d7)).trans d7, (h2.cell (p := ⟨b8, o8, none⟩) (World.block_lt_of_cell? _ _ d8)).trans d8, (h2.cell (p := ⟨b9, o9, none⟩) (World.block_lt_of_cell? _ _ d9)).trans d9, (h2.cell (p := ⟨b10, o10, none⟩) (World.block_lt_of_cell? _ _ d10)).trans d10, hB.trans (h2.mono hs)⟩
theorem hold11 {P : Program} {F : FuncId} {args : Array Value} {w w0 : World} {r : Ending} {B b1 o1 b2 o2 b3 o3 b4 o4 b5 o5 b6 o6 b7 o7 b8 o8 b9 o9 b10 o10 b11 o11 : Nat} {x1 x2 x3 x4 x5 x6 x7 x8 x9 x10 x11 : Value} (h : Calls P F args w fun e w' => e = r ∧ Below w.heap.size w w')
    (hB : Below B w0 w) (hs : B ≤ w.heap.size) (d1 : w.cell? ⟨b1, o1, none⟩ = some x1) (d2 : w.cell? ⟨b2, o2, none⟩ = some x2) (d3 : w.cell? ⟨b3, o3, none⟩ = some x3) (d4 : w.cell? ⟨b4, o4, none⟩ = some x4) (d5 : w.cell? ⟨b5, o5, none⟩ = some x5) (d6 : w.cell? ⟨b6, o6, none⟩ = some x6) (d7 : w.cell? ⟨b7, o7, none⟩ = some x7) (d8 : w.cell? ⟨b8, o8, none⟩ = some x8) (d9 : w.cell? ⟨b9, o9, none⟩ = some x9) (d10 : w.cell? ⟨b10, o10, none⟩ = some x10) (d11 : w.cell? ⟨b11, o11, none⟩ = some x11) :
    Calls P F args w fun e w' => e = r ∧ w'.cell? ⟨b1, o1, none⟩ = some x1 ∧ w'.cell? ⟨b2, o2, none⟩ = some x2 ∧ w'.cell? ⟨b3, o3, none⟩ = some x3 ∧ w'.cell? ⟨b4, o4, none⟩ = some x4 ∧ w'.cell? ⟨b5, o5, none⟩ = some x5 ∧ w'.cell? ⟨b6, o6, none⟩ = some x6 ∧ w'.cell? ⟨b7, o7, none⟩ = some x7 ∧ w'.cell? ⟨b8, o8, none⟩ = some x8 ∧ w'.cell? ⟨b9, o9, none⟩ = some x9 ∧ w'.cell? ⟨b10, o10, none⟩ = some x10 ∧ w'.cell? ⟨b11, o11, none⟩ = some x11 ∧ Below B w0 w' :=
  h.mono fun e w' ⟨h1, h2⟩ => ⟨h1, (h2.cell (p := ⟨b1, o1, none⟩) (World.block_lt_of_cell? _ _ d1)).trans d1, (h2.cell (p := ⟨b2, o2, none⟩) (World.block_lt_of_cell? _ _ d2)).trans d2, (h2.cell (p := ⟨b3, o3, none⟩) (World.block_lt_of_cell? _ _ d3)).trans d3, (h2.cell (p := ⟨b4, o4, none⟩) (World.block_lt_of_cell? _ _ d4)).trans d4, (h2.cell (p := ⟨b5, o5, none⟩) (World.block_lt_of_cell? _ _ d5)).trans d5, (h2.cell (p := ⟨b6, o6, none⟩) (World.block_lt_of_cell? _ _ d6)).trans d6, (h2.cell (p := ⟨b7, o7, none⟩) (World.block_lt_of_cell? _ _ d7)).trans d7, (h2.cell (p := ⟨b8, o8, none⟩) (World.block_lt_of_cell? _ _ d8)).trans d8, (h2.cell (p := ⟨b9, o9, none⟩) (World.block_lt_of_cell? _ _ d9)).trans d9, (h2.cell (p := ⟨b10, o10, none⟩) (World.block_lt_of_cell? _ _ d10)).trans d10, (h2.cell (p := ⟨b11, o11, none⟩) (World.block_lt_of_cell? _ _ d11)).trans d11, hB.trans (h2.mono hs)⟩
theorem hold12 {P : Program} {F : FuncId} {args : Array Value} {w w0 : World} {r : Ending} {B b1 o1 b2 o2 b3 o3 b4 o4 b5 o5 b6 o6 b7 o7 b8 o8 b9 o9 b10 o10 b11 o11 b12 o12 : Nat} {x1 x2 x3 x4 x5 x6 x7 x8 x9 x10 x11 x12 : Value} (h : Calls P F args w fun e w' => e = r ∧ Below w.heap.size w w')
    (hB : Below B w0 w) (hs : B ≤ w.heap.size) (d1 : w.cell? ⟨b1, o1, none⟩ = some x1) (d2 : w.cell? ⟨b2, o2, none⟩ = some x2) (d3 : w.cell? ⟨b3, o3, none⟩ = some x3) (d4 : w.cell? ⟨b4, o4, none⟩ = some x4) (d5 : w.cell? ⟨b5, o5, none⟩ = some x5) (d6 : w.cell? ⟨b6, o6, none⟩ = some x6) (d7 : w.cell? ⟨b7, o7, none⟩ = some x7) (d8 : w.cell? ⟨b8, o8, none⟩ = some x8) (d9 : w.cell? ⟨b9, o9, none⟩ = some x9) (d10 : w.cell? ⟨b10, o10, none⟩ = some x10) (d11 : w.cell? ⟨b11, o11, none⟩ = some x11) (d12 : w.cell? ⟨b12, o12, none⟩ = some x12) :
    Calls P F args w fun e w' => e = r ∧ w'.cell? ⟨b1, o1, none⟩ = some x1 ∧ w'.cell? ⟨b2, o2, none⟩ = some x2 ∧ w'.cell? ⟨b3, o3, none⟩ = some x3 ∧ w'.cell? ⟨b4, o4, none⟩ = some x4 ∧ w'.cell? ⟨b5, o5, none⟩ = some x5 ∧ w'.cell? ⟨b6, o6, none⟩ = some x6 ∧ w'.cell? ⟨b7, o7, none⟩ = some x7 ∧ w'.cell? ⟨b8, o8, none⟩ = some x8 ∧ w'.cell? ⟨b9, o9, none⟩ = some x9 ∧ w'.cell? ⟨b10, o10, none⟩ = some x10 ∧ w'.cell? ⟨b11, o11, none⟩ = some x11 ∧ w'.cell? ⟨b12, o12, none⟩ = some x12 ∧ Below B w0 w' :=
  h.mono fun e w' ⟨h1, h2⟩ => ⟨h1, (h2.cell (p := ⟨b1, o1, none⟩) (World.block_lt_of_cell? _ _ d1)).trans d1, (h2.cell (p := ⟨b2, o2, none⟩) (World.block_lt_of_cell? _ _ d2)).trans d2, (h2.cell (p := ⟨b3, o3, none⟩) (World.block_lt_of_cell? _ _ d3)).trans d3, (h2.cell (p := ⟨b4, o4, none⟩) (World.block_lt_of_cell? _ _ d4)).trans d4, (h2.cell (p := ⟨b5, o5, none⟩) (World.block_lt_of_cell? _ _ d5)).trans d5, (h2.cell (p := ⟨b6, o6, none⟩) (World.block_lt_of_cell? _ _ d6)).trans d6, (h2.cell (p := ⟨b7, o7, none⟩) (World.block_lt_of_cell? _ _ d7)).trans d7, (h2.cell (p := ⟨b8, o8, none⟩) (World.block_lt_of_cell? _ _ d8)).trans d8, (h2.cell (p := ⟨b9, o9, none⟩) (World.block_lt_of_cell? _ _ d9)).trans d9, (h2.cell (p := ⟨b10, o10, none⟩) (World.block_lt_of_cell? _ _ d10)).trans d10, (h2.cell (p := ⟨b11, o11, none⟩) (World.block_lt_of_cell? _ _ d11)).trans d11, (h2.cell (p := ⟨b12, o12, none⟩) (World.block_lt_of_cell? _ _ d12)).trans d12, hB.trans (h2.mono hs)⟩
end Go.Proofs.Ytmphmpfeeiipgaa
