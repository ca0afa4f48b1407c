/- Layer 6: tiles' places by name. -/
import Derived.Test.YtjjodfdmbiebnaaDoorGrl
import Derived.Deep.QuietTactic
import Derived.BigQuiet
import Derived.Deep.RegionWith
import Derived.Deep.RegionHeld3
import Derived.Deep.DeepCutAuto
import Derived.Deep.DeepFit
namespace Go.Proofs.YtjjodfdmbiebnaaDoor
open Go.ChangeShapes Go.WideShapes Go.ChangeAt Go.RowKit Go.Deep
set_option linter.unusedVariables false
theorem hsz_le {w X : World} {o : Obj} (h : Below (w.heap.size + 1) (w.alloc o) X) : w.heap.size ≤ X.heap.size := by have := h.size; simp at this; omega
theorem keep2 {wx : World} {A : Nat} {p q : Int} (hs : A < wx.heap.size) (h : wx.cell? ⟨A, 0, none⟩ = some (.int .i64 p) ∧ wx.cell? ⟨A, 1, none⟩ = some (.int .i64 q)) :
    Hk (∀ X, Below wx.heap.size wx X → X.cell? ⟨A, 0, none⟩ = some (.int .i64 p) ∧ X.cell? ⟨A, 1, none⟩ = some (.int .i64 q) ∧ True ∧ True ∧ A < X.heap.size) :=
  ⟨fun X hX => ⟨(hX.cell (p := ⟨A, 0, none⟩) hs).trans h.1, (hX.cell (p := ⟨A, 1, none⟩) hs).trans h.2, trivial, trivial, Nat.lt_of_lt_of_le hs hX.size⟩⟩
theorem rcenter_at (AX AY W H t : Int) (s : Value) (w : World) (w1 : 1 ≤ W) (w2 : W ≤ 128) (t0 : 0 ≤ t) (t1 : t ≤ 16384) (E : Hk (t % W * 65536 + 32768 = AX ∧ t / W * 65536 + 32768 = AY)) :
    Calls Tryd.prog 48 #[.agg #[.int .i64 W, .int .i64 H, s], .int .i64 t] w fun e' w' => e' = .returned (.agg #[.int .i64 AX, .int .i64 AY]) ∧ Below w.heap.size w w' := by
  obtain ⟨rfl, rfl⟩ := E.out; exact rcenter_any W H t s w w1 w2 t0 t1
theorem xy_at (X Y t : Int) (W H : Int) (a : Option Addr) (n c B : Nat) (xs : List Int) (w : World) (h : By w B a n xs) (hB : B ≤ w.heap.size) (hn : n ≤ 140737488355328) (g : GOk W H n xs) (t0 : 0 ≤ t) (t1 : t < W * H) (E : Hk (t % W = X ∧ t / W = Y)) :
    Calls Tryd.prog 16 #[.agg #[.int .i64 W, .int .i64 H, .slice a n c], .int .i64 t] w fun e' w' => e' = .returned (.tuple #[.int .i64 X, .int .i64 Y, .int .i64 0]) ∧ Below w.heap.size w w' := by
  obtain ⟨rfl, rfl⟩ := E.out; exact xy_yes t W H a n c B xs w h hB hn g t0 t1
theorem center_at (AX AY t : Int) (W H : Int) (a : Option Addr) (n c B : Nat) (xs : List Int) (w : World) (h : By w B a n xs) (hB : B ≤ w.heap.size) (hn : n ≤ 140737488355328) (g : GOk W H n xs) (t0 : 0 ≤ t) (t1 : t < W * H) (E : Hk (t % W * 65536 + 32768 = AX ∧ t / W * 65536 + 32768 = AY)) :
    Calls Tryd.prog 18 #[.agg #[.int .i64 W, .int .i64 H, .slice a n c], .int .i64 t] w fun e' w' => e' = .returned (.tuple #[.agg #[.int .i64 AX, .int .i64 AY], .int .i64 0]) ∧ Below w.heap.size w w' := by
  obtain ⟨rfl, rfl⟩ := E.out; exact center_yes t W H a n c B xs w h hB hn g t0 t1
end Go.Proofs.YtjjodfdmbiebnaaDoor
