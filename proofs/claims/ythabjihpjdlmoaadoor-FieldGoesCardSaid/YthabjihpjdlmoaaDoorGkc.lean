import Derived.Test.YthabjihpjdlmoaaDoorGkb
import Derived.ProofKit
import Derived.LaidMore
import Derived.OpenShut
import Derived.Stop.Joined
import Derived.Test.YthabjihpjdlmoaaDoorRows
import Derived.Test.YthabjihpjdlmoaaDoorChecked
import Derived.ShutString
import Derived.ChangeOld
import Derived.Below
import Derived.Deep.Slices
import Derived.Deep.Fields
import Derived.ChangeSame
import Derived.Test.YthabjihpjdlmoaaDoorGka
/- Layer 6: centres, tiles of places. -/
namespace Go.Proofs.YthabjihpjdlmoaaDoor
open Go.RowKit
set_option linter.unusedVariables false
end Go.Proofs.YthabjihpjdlmoaaDoor
/- Layer 6: the ways to the neighbours, as the table has them; what a neighbour is. -/
namespace Go.Proofs.YthabjihpjdlmoaaDoor
open Go.ChangeShapes Go.WideShapes Go.ChangeAt Go.RowKit
set_option linter.unusedVariables false
def dxL : List Int := [0, 1, 0, -1, 1, 1, -1, -1]
def dyL : List Int := [-1, 0, 1, 0, -1, 1, 1, -1]
def oL : List Int := [0, -1, 1, 0, 0, 1, -1, 0, 1, -1, 1, 1, -1, 1, -1, -1]
theorem one_atn {cs : List Value} {a n j : Nat} {v : Value} (hj : j < n) (h : (((cs.drop a).take n).drop j).take 1 = [v]) : cs[a + j]? = some v := by
  have h1 := congrArg (fun l : List Value => l[0]?) h
  simp only [List.getElem?_take, List.getElem?_drop] at h1
  simpa [hj] using h1
section
variable {H : Type} {enc : TypeId × Value → H} {w : World} {base : Nat} {sp : Nat → Bool} {held : Bool}
theorem int_isn {t : TypeId} {fuel : Nat} {cs : List Value} {x : DataW H × List MemPlace} {z : Int} (ht : Tryd.prog.underlying t = some (.int .i64)) (h : DataW.trod enc Tryd.prog w base sp held fuel t cs = some x) (hx : x.1 = .lit (.int .i64 z)) : cs = [.int .i64 z] := by
  obtain ⟨n, rfl, e, _⟩ := DataW.trod_int ht h
  rw [e] at hx
  simp at hx
  rw [hx]
theorem off_is {fuel : Nat} {cs : List Value} {x : DataW H × List MemPlace} {n0 n1 : Int} (h : DataW.trod enc Tryd.prog w base sp held fuel 180 cs = some x)
    (hx : x.1 = .agg [.lit (.int .i64 n0), .lit (.int .i64 n1)]) :
    ∀ j, j < 2 → (cs.drop j).take 1 = [.int .i64 ([n0, n1].getD j 0)] := by
  have h3 : Tryd.prog.cellsOf 3 = 1 := by kernel_rfl
  obtain ⟨ys, n', _, e, _, hyl, hg⟩ := DataW.trod_struct Tryd.underlying180 h
  match ys, hyl with
  | [y0, y1], _ =>
    rw [e] at hx
    simp at hx
    obtain ⟨e0, e1⟩ := hx
    have g0 : DataW.trod enc Tryd.prog w base sp held n' 3 ((cs.drop 0).take (Tryd.prog.cellsOf 3)) = some y0 := hg 0 _ rfl
    rw [h3] at g0
    have g1 : DataW.trod enc Tryd.prog w base sp held n' 3 ((cs.drop 1).take (Tryd.prog.cellsOf 3)) = some y1 := hg 1 _ rfl
    rw [h3] at g1
    intro j hj
    match j, hj with
    | 0, _ => exact int_isn Tryd.underlying3 g0 e0
    | 1, _ => exact int_isn Tryd.underlying3 g1 e1
end
/-- What the walks lean on: the table's cells. -/
structure LT (w : World) : Prop where
  offs : ∀ i j, i < 8 → j < 2 → w.cell? ⟨2, i * 2 + j, none⟩ = some (.int .i64 (oL.getD (i * 2 + j) 0))
  size : 2 < w.heap.size
theorem LT.below {B : Nat} {w w' : World} (h : LT w) (hb : Below B w w') (hB : w.heap.size ≤ B) : LT w' :=
  ⟨fun i j hi hj => (hb.cell (p := ⟨2, i * 2 + j, none⟩) (by have := h.size; show 2 < B; omega)).trans (h.offs i j hi hj), Nat.lt_of_lt_of_le h.size hb.size⟩
theorem LT.drewN {w : World} (h : LT w) (n : Nat) : LT (w.drewN n) := ⟨h.offs, h.size⟩
theorem gOffs : Tryd.prog.globalNamed "throng/tiles.offsets" = some 2 := by kernel_rfl
theorem tOffs : (Tryd.prog.globals[2]?).map (·.type) = some 181 := by kernel_rfl
theorem of_laidT {W : World} (h : laidMetH Tryd.prog [("throng/tiles.offsets", Rows.laid_throng_tiles_offsets)] W) : LT W := by
  rw [MakeChecks.laidMetH_plain _ _ _ (by kernel_rfl)] at h
  obtain ⟨ps, ⟨g0, t0, cs0, f0, p0, q0, hg0, ht0, hv0, hd0, _, _⟩, _, _⟩ := h
  obtain rfl := Option.some.inj (gOffs.symm.trans hg0)
  obtain rfl := Option.some.inj (tOffs.symm.trans ht0)
  have c2 : Tryd.prog.cellsOf 180 = 2 := by kernel_rfl
  have K : ∀ i j, i < 8 → j < 2 → W.cell? ⟨2, i * 2 + j, none⟩ = some (.int .i64 (oL.getD (i * 2 + j) 0)) := by
    obtain ⟨xs, m, _, e, _, hyl, hg⟩ := DataW.trod_array Tryd.underlying181 hd0
    simp only [Prod.mk.injEq, Rows.laid_throng_tiles_offsets, DataW.agg.injEq] at e
    match xs, hyl with
    | [y0, y1, y2, y3, y4, y5, y6, y7], _ =>
      simp at e
      obtain ⟨⟨e0, e1, e2, e3, e4, e5, e6, e7⟩, _⟩ := e
      simp only [c2] at hg
      intro i j hi hj
      have gi := hg i hi
      rw [World.var?_cell hg0 hv0 (i * 2 + j), ← Array.getElem?_toList]
      match i, hi, gi with
      | 0, _, gi => rw [one_atn hj (off_is gi e0.symm j hj)]; match j, hj with | 0, _ => rfl | 1, _ => rfl
      | 1, _, gi => rw [one_atn hj (off_is gi e1.symm j hj)]; match j, hj with | 0, _ => rfl | 1, _ => rfl
      | 2, _, gi => rw [one_atn hj (off_is gi e2.symm j hj)]; match j, hj with | 0, _ => rfl | 1, _ => rfl
      | 3, _, gi => rw [one_atn hj (off_is gi e3.symm j hj)]; match j, hj with | 0, _ => rfl | 1, _ => rfl
      | 4, _, gi => rw [one_atn hj (off_is gi e4.symm j hj)]; match j, hj with | 0, _ => rfl | 1, _ => rfl
      | 5, _, gi => rw [one_atn hj (off_is gi e5.symm j hj)]; match j, hj with | 0, _ => rfl | 1, _ => rfl
      | 6, _, gi => rw [one_atn hj (off_is gi e6.symm j hj)]; match j, hj with | 0, _ => rfl | 1, _ => rfl
      | 7, _, gi => rw [one_atn hj (off_is gi e7.symm j hj)]; match j, hj with | 0, _ => rfl | 1, _ => rfl
  exact ⟨K, World.block_lt_of_cell? _ _ (K 0 0 (by omega) (by omega))⟩
/-- The neighbour of t in way k, or -1. -/
def nbS (W H t dx dy : Int) : Int := if 0 ≤ t % W + dx ∧ t % W + dx < W ∧ 0 ≤ t / W + dy ∧ t / W + dy < H then t % W + dx + W * (t / W + dy) else -1
def nb (W H t : Int) (k : Nat) : Int := nbS W H t (dxL.getD k 0) (dyL.getD k 0)
def nbL (W H t : Int) : List Int := (List.range 8).map (nb W H t)
end Go.Proofs.YthabjihpjdlmoaaDoor
/- Layer 6: the neighbours of a tile. -/
namespace Go.Proofs.YthabjihpjdlmoaaDoor
open Go.RowKit
set_option linter.unusedVariables false
/-- The eight cells of the answer under way, and the result's behind. -/
structure N8 (w0 w : World) (F : Nat → Int) : Prop where
  c : ∀ j, j < 8 → w.cell? ⟨w0.heap.size + 1, j, none⟩ = some (.int .i64 (F j))
  f : ∀ j, w.frozen? ⟨w0.heap.size + 1, j, none⟩ = false
  d : ∀ j, j < 8 → w.cell? ⟨w0.heap.size, j, none⟩ = some (.int .i64 0)
  g : ∀ j, w.frozen? ⟨w0.heap.size, j, none⟩ = false
  hs : w0.heap.size + 1 < w.heap.size
  hB : Below w0.heap.size w0 w
theorem N8.start (w : World) : N8 w ((w.alloc (.cells #[.int .i64 0, .int .i64 0, .int .i64 0, .int .i64 0, .int .i64 0, .int .i64 0, .int .i64 0, .int .i64 0] 88)).alloc (.cells #[.int .i64 0, .int .i64 0, .int .i64 0, .int .i64 0, .int .i64 0, .int .i64 0, .int .i64 0, .int .i64 0] 88)) (fun _ => 0) := by
  refine ⟨fun j hj => ?_, fun j => ?_, fun j hj => ?_, fun j => ?_, by simp, ((Below.refl _ _).alloc (Nat.le_refl _) _).alloc (by simp) _⟩
  · match j, hj with
    | 0, _ | 1, _ | 2, _ | 3, _ | 4, _ | 5, _ | 6, _ | 7, _ => go_simp
  · go_simp
  · match j, hj with
    | 0, _ | 1, _ | 2, _ | 3, _ | 4, _ | 5, _ | 6, _ | 7, _ => go_simp
  · go_simp
theorem N8.next {w0 w w' : World} {F : Nat → Int} (h : N8 w0 w F) (hb : Below w.heap.size w w') : N8 w0 w' F := by
  have hs := h.hs
  have a0 : w0.heap.size < w.heap.size := by omega
  exact ⟨fun j hj => (hb.cell (p := ⟨w0.heap.size + 1, j, none⟩) hs).trans (h.c j hj), fun j => (hb.frozen (p := ⟨w0.heap.size + 1, j, none⟩) hs).trans (h.f j),
    fun j hj => (hb.cell (p := ⟨w0.heap.size, j, none⟩) a0).trans (h.d j hj), fun j => (hb.frozen (p := ⟨w0.heap.size, j, none⟩) a0).trans (h.g j), Nat.lt_of_lt_of_le hs hb.size, h.hB.trans (hb.mono h.hB.size)⟩
theorem N8.alloc {w0 w : World} {F : Nat → Int} (h : N8 w0 w F) (o : Obj) : N8 w0 (w.alloc o) F := h.next ((Below.refl _ _).alloc (Nat.le_refl _) _)
theorem N8.drewN {w0 w : World} {F : Nat → Int} (h : N8 w0 w F) (n : Nat) : N8 w0 (w.drewN n) F := ⟨h.c, h.f, h.d, h.g, h.hs, below_drewN h.hB n⟩
theorem N8.set {w0 w : World} {F G : Nat → Int} (h : N8 w0 w F) (k : Nat) (v : Int) (hk : k < 8) (e : G k = v) (e' : ∀ j, j < 8 → j ≠ k → G j = F j) : N8 w0 (w.setCell ⟨w0.heap.size + 1, k, none⟩ (.int .i64 v)) G := by
  refine ⟨fun j hj => ?_, fun j => ?_, fun j hj => ?_, fun j => ?_, ?_, ?_⟩
  · by_cases ej : j = k
    · subst ej; rw [e]; exact World.cell?_setCell_same _ _ _ (u := .int .i64 (F j)) (h.c j hj)
    · rw [World.cell?_setCell_other _ _ _ _ (by simp <;> omega), e' j hj ej]; exact h.c j hj
  · simpa using h.f j
  · rw [World.cell?_setCell_other _ _ _ _ (by simp)]; exact h.d j hj
  · simpa using h.g j
  · simpa using h.hs
  · exact h.hB.setCell (by simp) _
theorem nbS_yes {W H t dx dy : Int} (a : 0 ≤ t % W + dx) (b : t % W + dx < W) (c : 0 ≤ t / W + dy) (d : t / W + dy < H) : nbS W H t dx dy = t % W + dx + W * (t / W + dy) := by unfold nbS; rw [if_pos ⟨a, b, c, d⟩]
theorem nbS_no {W H t dx dy : Int} (h : ¬ (0 ≤ t % W + dx ∧ t % W + dx < W ∧ 0 ≤ t / W + dy ∧ t / W + dy < H)) : nbS W H t dx dy = -1 := by unfold nbS; rw [if_neg h]
theorem d_bd (k : Nat) : (-1 ≤ dxL.getD k 0 ∧ dxL.getD k 0 ≤ 1) ∧ (-1 ≤ dyL.getD k 0 ∧ dyL.getD k 0 ≤ 1) := by
  by_cases h : k < 8
  · match k, h with
    | 0, _ | 1, _ | 2, _ | 3, _ | 4, _ | 5, _ | 6, _ | 7, _ => decide
  · have e1 : dxL.getD k 0 = 0 := by unfold dxL; simp [List.getD]; rw [List.getElem?_eq_none (by simp; omega)]; rfl
    have e2 : dyL.getD k 0 = 0 := by unfold dyL; simp [List.getD]; rw [List.getElem?_eq_none (by simp; omega)]; rfl
    rw [e1, e2]; omega
set_option maxRecDepth 100000 in
theorem idx_any (k : Nat) (hk : k < 8) : ∀ w, (Instr.index 181 (.agg #[.int .i64 0, .int .i64 (-1), .int .i64 1, .int .i64 0, .int .i64 0, .int .i64 1, .int .i64 (-1), .int .i64 0, .int .i64 1, .int .i64 (-1), .int .i64 1, .int .i64 1, .int .i64 (-1), .int .i64 1, .int .i64 (-1), .int .i64 (-1)]) (.int .i64 k)).run Tryd.prog w = .ok (.agg #[.int .i64 (dxL.getD k 0), .int .i64 (dyL.getD k 0)]) w := by
  match k, hk with
  | 0, _ => exact fun w => by kernel_rfl
  | 1, _ => exact fun w => by kernel_rfl
  | 2, _ => exact fun w => by kernel_rfl
  | 3, _ => exact fun w => by kernel_rfl
  | 4, _ => exact fun w => by kernel_rfl
  | 5, _ => exact fun w => by kernel_rfl
  | 6, _ => exact fun w => by kernel_rfl
  | 7, _ => exact fun w => by kernel_rfl

set_option maxRecDepth 100000 in
set_option maxHeartbeats 1600000 in
theorem tnear_any (W H t : Int) (w : World) (hL : LT w) (w1 : 1 ≤ W) (w2 : W ≤ 128) (h1 : 1 ≤ H) (h2 : H ≤ 128) (t0 : 0 ≤ t) (t1 : t ≤ 16384) :
    Calls Tryd.prog 110 #[.int .i64 W, .int .i64 H, .int .i64 t] w fun e w' => e = .returned (.agg #[.int .i64 (nb W H t 0), .int .i64 (nb W H t 1), .int .i64 (nb W H t 2), .int .i64 (nb W H t 3), .int .i64 (nb W H t 4), .int .i64 (nb W H t 5), .int .i64 (nb W H t 6), .int .i64 (nb W H t 7)]) ∧ Below w.heap.size w w' := by
  have q1 : 0 ≤ t % W := Int.emod_nonneg _ (by omega)
  have q2 : t % W < W := Int.emod_lt_of_pos _ (by omega)
  have q3 : 0 ≤ t / W := Int.ediv_nonneg t0 (by omega)
  have q4 : t / W ≤ t := Int.ediv_le_self _ t0
  have w0 : ¬ W = 0 := by omega
  have hLL : LT ((w.alloc (.cells #[.int .i64 0, .int .i64 0, .int .i64 0, .int .i64 0, .int .i64 0, .int .i64 0, .int .i64 0, .int .i64 0] 88)).alloc (.cells #[.int .i64 0, .int .i64 0, .int .i64 0, .int .i64 0, .int .i64 0, .int .i64 0, .int .i64 0, .int .i64 0] 88)) := hL.below (((Below.refl _ _).alloc (Nat.le_refl _) _).alloc (by simp) _) (Nat.le_refl _)
  have o0 : ((w.alloc (.cells #[.int .i64 0, .int .i64 0, .int .i64 0, .int .i64 0, .int .i64 0, .int .i64 0, .int .i64 0, .int .i64 0] 88)).alloc (.cells #[.int .i64 0, .int .i64 0, .int .i64 0, .int .i64 0, .int .i64 0, .int .i64 0, .int .i64 0, .int .i64 0] 88)).cell? ⟨2, 0, none⟩ = some (.int .i64 0) := hLL.offs 0 0 (by omega) (by omega)
  have o1 : ((w.alloc (.cells #[.int .i64 0, .int .i64 0, .int .i64 0, .int .i64 0, .int .i64 0, .int .i64 0, .int .i64 0, .int .i64 0] 88)).alloc (.cells #[.int .i64 0, .int .i64 0, .int .i64 0, .int .i64 0, .int .i64 0, .int .i64 0, .int .i64 0, .int .i64 0] 88)).cell? ⟨2, 1, none⟩ = some (.int .i64 (-1)) := hLL.offs 0 1 (by omega) (by omega)
  have o2 : ((w.alloc (.cells #[.int .i64 0, .int .i64 0, .int .i64 0, .int .i64 0, .int .i64 0, .int .i64 0, .int .i64 0, .int .i64 0] 88)).alloc (.cells #[.int .i64 0, .int .i64 0, .int .i64 0, .int .i64 0, .int .i64 0, .int .i64 0, .int .i64 0, .int .i64 0] 88)).cell? ⟨2, 2, none⟩ = some (.int .i64 1) := hLL.offs 1 0 (by omega) (by omega)
  have o3 : ((w.alloc (.cells #[.int .i64 0, .int .i64 0, .int .i64 0, .int .i64 0, .int .i64 0, .int .i64 0, .int .i64 0, .int .i64 0] 88)).alloc (.cells #[.int .i64 0, .int .i64 0, .int .i64 0, .int .i64 0, .int .i64 0, .int .i64 0, .int .i64 0, .int .i64 0] 88)).cell? ⟨2, 3, none⟩ = some (.int .i64 0) := hLL.offs 1 1 (by omega) (by omega)
  have o4 : ((w.alloc (.cells #[.int .i64 0, .int .i64 0, .int .i64 0, .int .i64 0, .int .i64 0, .int .i64 0, .int .i64 0, .int .i64 0] 88)).alloc (.cells #[.int .i64 0, .int .i64 0, .int .i64 0, .int .i64 0, .int .i64 0, .int .i64 0, .int .i64 0, .int .i64 0] 88)).cell? ⟨2, 4, none⟩ = some (.int .i64 0) := hLL.offs 2 0 (by omega) (by omega)
  have o5 : ((w.alloc (.cells #[.int .i64 0, .int .i64 0, .int .i64 0, .int .i64 0, .int .i64 0, .int .i64 0, .int .i64 0, .int .i64 0] 88)).alloc (.cells #[.int .i64 0, .int .i64 0, .int .i64 0, .int .i64 0, .int .i64 0, .int .i64 0, .int .i64 0, .int .i64 0] 88)).cell? ⟨2, 5, none⟩ = some (.int .i64 1) := hLL.offs 2 1 (by omega) (by omega)
  have o6 : ((w.alloc (.cells #[.int .i64 0, .int .i64 0, .int .i64 0, .int .i64 0, .int .i64 0, .int .i64 0, .int .i64 0, .int .i64 0] 88)).alloc (.cells #[.int .i64 0, .int .i64 0, .int .i64 0, .int .i64 0, .int .i64 0, .int .i64 0, .int .i64 0, .int .i64 0] 88)).cell? ⟨2, 6, none⟩ = some (.int .i64 (-1)) := hLL.offs 3 0 (by omega) (by omega)
  have o7 : ((w.alloc (.cells #[.int .i64 0, .int .i64 0, .int .i64 0, .int .i64 0, .int .i64 0, .int .i64 0, .int .i64 0, .int .i64 0] 88)).alloc (.cells #[.int .i64 0, .int .i64 0, .int .i64 0, .int .i64 0, .int .i64 0, .int .i64 0, .int .i64 0, .int .i64 0] 88)).cell? ⟨2, 7, none⟩ = some (.int .i64 0) := hLL.offs 3 1 (by omega) (by omega)
  have o8 : ((w.alloc (.cells #[.int .i64 0, .int .i64 0, .int .i64 0, .int .i64 0, .int .i64 0, .int .i64 0, .int .i64 0, .int .i64 0] 88)).alloc (.cells #[.int .i64 0, .int .i64 0, .int .i64 0, .int .i64 0, .int .i64 0, .int .i64 0, .int .i64 0, .int .i64 0] 88)).cell? ⟨2, 8, none⟩ = some (.int .i64 1) := hLL.offs 4 0 (by omega) (by omega)
  have o9 : ((w.alloc (.cells #[.int .i64 0, .int .i64 0, .int .i64 0, .int .i64 0, .int .i64 0, .int .i64 0, .int .i64 0, .int .i64 0] 88)).alloc (.cells #[.int .i64 0, .int .i64 0, .int .i64 0, .int .i64 0, .int .i64 0, .int .i64 0, .int .i64 0, .int .i64 0] 88)).cell? ⟨2, 9, none⟩ = some (.int .i64 (-1)) := hLL.offs 4 1 (by omega) (by omega)
  have o10 : ((w.alloc (.cells #[.int .i64 0, .int .i64 0, .int .i64 0, .int .i64 0, .int .i64 0, .int .i64 0, .int .i64 0, .int .i64 0] 88)).alloc (.cells #[.int .i64 0, .int .i64 0, .int .i64 0, .int .i64 0, .int .i64 0, .int .i64 0, .int .i64 0, .int .i64 0] 88)).cell? ⟨2, 10, none⟩ = some (.int .i64 1) := hLL.offs 5 0 (by omega) (by omega)
  have o11 : ((w.alloc (.cells #[.int .i64 0, .int .i64 0, .int .i64 0, .int .i64 0, .int .i64 0, .int .i64 0, .int .i64 0, .int .i64 0] 88)).alloc (.cells #[.int .i64 0, .int .i64 0, .int .i64 0, .int .i64 0, .int .i64 0, .int .i64 0, .int .i64 0, .int .i64 0] 88)).cell? ⟨2, 11, none⟩ = some (.int .i64 1) := hLL.offs 5 1 (by omega) (by omega)
  have o12 : ((w.alloc (.cells #[.int .i64 0, .int .i64 0, .int .i64 0, .int .i64 0, .int .i64 0, .int .i64 0, .int .i64 0, .int .i64 0] 88)).alloc (.cells #[.int .i64 0, .int .i64 0, .int .i64 0, .int .i64 0, .int .i64 0, .int .i64 0, .int .i64 0, .int .i64 0] 88)).cell? ⟨2, 12, none⟩ = some (.int .i64 (-1)) := hLL.offs 6 0 (by omega) (by omega)
  have o13 : ((w.alloc (.cells #[.int .i64 0, .int .i64 0, .int .i64 0, .int .i64 0, .int .i64 0, .int .i64 0, .int .i64 0, .int .i64 0] 88)).alloc (.cells #[.int .i64 0, .int .i64 0, .int .i64 0, .int .i64 0, .int .i64 0, .int .i64 0, .int .i64 0, .int .i64 0] 88)).cell? ⟨2, 13, none⟩ = some (.int .i64 1) := hLL.offs 6 1 (by omega) (by omega)
  have o14 : ((w.alloc (.cells #[.int .i64 0, .int .i64 0, .int .i64 0, .int .i64 0, .int .i64 0, .int .i64 0, .int .i64 0, .int .i64 0] 88)).alloc (.cells #[.int .i64 0, .int .i64 0, .int .i64 0, .int .i64 0, .int .i64 0, .int .i64 0, .int .i64 0, .int .i64 0] 88)).cell? ⟨2, 14, none⟩ = some (.int .i64 (-1)) := hLL.offs 7 0 (by omega) (by omega)
  have o15 : ((w.alloc (.cells #[.int .i64 0, .int .i64 0, .int .i64 0, .int .i64 0, .int .i64 0, .int .i64 0, .int .i64 0, .int .i64 0] 88)).alloc (.cells #[.int .i64 0, .int .i64 0, .int .i64 0, .int .i64 0, .int .i64 0, .int .i64 0, .int .i64 0, .int .i64 0] 88)).cell? ⟨2, 15, none⟩ = some (.int .i64 (-1)) := hLL.offs 7 1 (by omega) (by omega)
  clear hLL hL
  go_enter Tryd.func110, Tryd.ntmps110
  have K0 := Hk.mk (N8.start w)
  go_wp2
  clear o0 o1 o2 o3 o4 o5 o6 o7 o8 o9 o10 o11 o12 o13 o14 o15
  go_loopw [13] (fun i wr => ∃ k : Nat, k ≤ 8 ∧ i = .int .i64 k ∧ Hk (N8 w wr (fun j => if j < k then nb W H t j else 0))) (fun i _ => 8 - (intOf i).toNat)
  case atStart => exact ⟨0, by omega, rfl, ⟨by simpa using K0.out⟩⟩
  case round =>
    clear K0
    obtain ⟨k, hk, rfl, HN⟩ := hrel
    by_cases hlt : k < 8
    · have hix := idx_any k hlt
      obtain ⟨⟨x1, x2⟩, y1, y2⟩ := d_bd k
      have HNB : Hk (nb W H t k = nbS W H t (dxL.getD k 0) (dyL.getD k 0)) := ⟨rfl⟩
      generalize dxL.getD k 0 = dx at *
      generalize dyL.getD k 0 = dy at *
      have j1 : (0 : Int) ≤ (k : Int) := by omega
      have j2 : (k : Int) < 8 := by omega
      have HA := Hk.mk (HN.out.alloc (.cells #[.int .i64 dx, .int .i64 dy] 180))
      have c0 := HA.out.c k hlt
      have f0 := HA.out.f k
      have r1 : t.tmod W = t % W := Int.tmod_eq_emod_of_nonneg t0
      have r2 : t.tdiv W = t / W := Int.tdiv_eq_ediv_of_nonneg t0
      have e1 : IntKind.i64.wrap (t % W + dx) = t % W + dx := wr_in (by omega)
      have e3 : IntKind.i64.wrap (t / W) = t / W := wr_in (by omega)
      have e2 : IntKind.i64.wrap (t / W + dy) = t / W + dy := wr_in (by omega)
      by_cases z0 : t % W + dx < 0
      · have b0 : decide (t % W + dx < 0) = true := by simp; omega
        have HV : Hk (nb W H t k = -1) := ⟨HNB.out.trans (nbS_no (by omega))⟩
        go_wp2
        go_quiet (fail)
        go_wp2
        go_roundw
        case rel => exact ⟨k + 1, by omega, by go_num, ⟨(HA.out.drewN _).set k _ hlt (by rw [if_pos (by omega)]; exact HV.out) (fun j hj hjk => by by_cases hjj : j < k; rw [if_pos hjj, if_pos (by omega)]; rw [if_neg hjj, if_neg (by omega)])⟩⟩
        case measure => simp [intOf]; omega
      by_cases z1 : W ≤ t % W + dx
      · have b0 : decide (t % W + dx < 0) = false := by simp; omega
        have b1 : decide (W ≤ t % W + dx) = true := by simp; omega
        have HV : Hk (nb W H t k = -1) := ⟨HNB.out.trans (nbS_no (by omega))⟩
        go_wp2
        go_quiet (fail)
        go_wp2
        go_roundw
        case rel => exact ⟨k + 1, by omega, by go_num, ⟨(HA.out.drewN _).set k _ hlt (by rw [if_pos (by omega)]; exact HV.out) (fun j hj hjk => by by_cases hjj : j < k; rw [if_pos hjj, if_pos (by omega)]; rw [if_neg hjj, if_neg (by omega)])⟩⟩
        case measure => simp [intOf]; omega
      by_cases z2 : t / W + dy < 0
      · have b0 : decide (t % W + dx < 0) = false := by simp; omega
        have b1 : decide (W ≤ t % W + dx) = false := by simp; omega
        have b2 : decide (t / W + dy < 0) = true := by simp; omega
        have HV : Hk (nb W H t k = -1) := ⟨HNB.out.trans (nbS_no (by omega))⟩
        go_wp2
        go_quiet (fail)
        go_wp2
        go_roundw
        case rel => exact ⟨k + 1, by omega, by go_num, ⟨(HA.out.drewN _).set k _ hlt (by rw [if_pos (by omega)]; exact HV.out) (fun j hj hjk => by by_cases hjj : j < k; rw [if_pos hjj, if_pos (by omega)]; rw [if_neg hjj, if_neg (by omega)])⟩⟩
        case measure => simp [intOf]; omega
      by_cases z3 : H ≤ t / W + dy
      · have b0 : decide (t % W + dx < 0) = false := by simp; omega
        have b1 : decide (W ≤ t % W + dx) = false := by simp; omega
        have b2 : decide (t / W + dy < 0) = false := by simp; omega
        have b3 : decide (H ≤ t / W + dy) = true := by simp; omega
        have HV : Hk (nb W H t k = -1) := ⟨HNB.out.trans (nbS_no (by omega))⟩
        go_wp2
        go_quiet (fail)
        go_wp2
        go_roundw
        case rel => exact ⟨k + 1, by omega, by go_num, ⟨(HA.out.drewN _).set k _ hlt (by rw [if_pos (by omega)]; exact HV.out) (fun j hj hjk => by by_cases hjj : j < k; rw [if_pos hjj, if_pos (by omega)]; rw [if_neg hjj, if_neg (by omega)])⟩⟩
        case measure => simp [intOf]; omega
      · have b0 : decide (t % W + dx < 0) = false := by simp; omega
        have b1 : decide (W ≤ t % W + dx) = false := by simp; omega
        have b2 : decide (t / W + dy < 0) = false := by simp; omega
        have b3 : decide (H ≤ t / W + dy) = false := by simp; omega
        have m3 := Int.mul_le_mul w2 (show t / W + dy ≤ 128 by omega) (by omega) (by omega)
        have m4 : 0 ≤ W * (t / W + dy) := Int.mul_nonneg (by omega) (by omega)
        have e4 : IntKind.i64.wrap (W * (t / W + dy)) = W * (t / W + dy) := wr_in (by omega)
        have e5 : IntKind.i64.wrap (t % W + dx + W * (t / W + dy)) = t % W + dx + W * (t / W + dy) := wr_in (by omega)
        have HV : Hk (nb W H t k = t % W + dx + W * (t / W + dy)) := ⟨HNB.out.trans (nbS_yes (by omega) (by omega) (by omega) (by omega))⟩
        go_wp2
        go_quiet (fail)
        go_wp2
        go_roundw
        case rel => exact ⟨k + 1, by omega, by go_num, ⟨(HA.out.drewN _).set k _ hlt (by rw [if_pos (by omega)]; exact HV.out) (fun j hj hjk => by by_cases hjj : j < k; rw [if_pos hjj, if_pos (by omega)]; rw [if_neg hjj, if_neg (by omega)])⟩⟩
        case measure => simp [intOf]; omega
    · have hk8 : k = 8 := by omega
      subst hk8
      have c0 : wr.cell? ⟨w.heap.size + 1, 0, none⟩ = some (.int .i64 (nb W H t 0)) := (HN.out.c 0 (by omega)).trans (by rw [if_pos (by omega)])
      have d0 := HN.out.d 0 (by omega)
      have g0 := HN.out.g 0
      have c1 : wr.cell? ⟨w.heap.size + 1, 1, none⟩ = some (.int .i64 (nb W H t 1)) := (HN.out.c 1 (by omega)).trans (by rw [if_pos (by omega)])
      have d1 := HN.out.d 1 (by omega)
      have g1 := HN.out.g 1
      have c2 : wr.cell? ⟨w.heap.size + 1, 2, none⟩ = some (.int .i64 (nb W H t 2)) := (HN.out.c 2 (by omega)).trans (by rw [if_pos (by omega)])
      have d2 := HN.out.d 2 (by omega)
      have g2 := HN.out.g 2
      have c3 : wr.cell? ⟨w.heap.size + 1, 3, none⟩ = some (.int .i64 (nb W H t 3)) := (HN.out.c 3 (by omega)).trans (by rw [if_pos (by omega)])
      have d3 := HN.out.d 3 (by omega)
      have g3 := HN.out.g 3
      have c4 : wr.cell? ⟨w.heap.size + 1, 4, none⟩ = some (.int .i64 (nb W H t 4)) := (HN.out.c 4 (by omega)).trans (by rw [if_pos (by omega)])
      have d4 := HN.out.d 4 (by omega)
      have g4 := HN.out.g 4
      have c5 : wr.cell? ⟨w.heap.size + 1, 5, none⟩ = some (.int .i64 (nb W H t 5)) := (HN.out.c 5 (by omega)).trans (by rw [if_pos (by omega)])
      have d5 := HN.out.d 5 (by omega)
      have g5 := HN.out.g 5
      have c6 : wr.cell? ⟨w.heap.size + 1, 6, none⟩ = some (.int .i64 (nb W H t 6)) := (HN.out.c 6 (by omega)).trans (by rw [if_pos (by omega)])
      have d6 := HN.out.d 6 (by omega)
      have g6 := HN.out.g 6
      have c7 : wr.cell? ⟨w.heap.size + 1, 7, none⟩ = some (.int .i64 (nb W H t 7)) := (HN.out.c 7 (by omega)).trans (by rw [if_pos (by omega)])
      have d7 := HN.out.d 7 (by omega)
      have g7 := HN.out.g 7
      have HBB := Hk.mk HN.out.hB
      clear HN
      go_wp2
      refine bodyPost_ret (v := .agg #[.int .i64 (nb W H t 0), .int .i64 (nb W H t 1), .int .i64 (nb W H t 2), .int .i64 (nb W H t 3), .int .i64 (nb W H t 4), .int .i64 (nb W H t 5), .int .i64 (nb W H t 6), .int .i64 (nb W H t 7)]) (by simp [results, Tryd.results110, go_sem, d0, d1, d2, d3, d4, d5, d6, d7]) rfl ⟨rfl, ?_⟩
      exact ((((((((HBB.out).setCell (by simp) _).setCell (by simp) _).setCell (by simp) _).setCell (by simp) _).setCell (by simp) _).setCell (by simp) _).setCell (by simp) _).setCell (by simp) _
end Go.Proofs.YthabjihpjdlmoaaDoor
/- Arguments that hold slices of bytes: what is known of them. -/
namespace Go.Proofs.YthabjihpjdlmoaaDoor
open Go.ChangeShapes Go.WideShapes Go.ChangeAt Go.RowKit Go.Deep
set_option linter.unusedVariables false
theorem add_plus {b off : Nat} (j : Nat) : (⟨b, off, none⟩ : Addr).add j = ⟨b, off + j, none⟩ := by
  unfold Addr.add; split <;> simp_all
theorem by_of {H : Type} {enc : TypeId × Value → H} {w : World} {base : Nat} {spare : Nat → Bool} {held : Bool} {fuel : Nat} {x : DataW H × List MemPlace} {v : Value}
    (hf : DataW.trod enc Tryd.prog w base spare held fuel 22 [v] = some x) : ∃ a n c xs, v = .slice a n c ∧ n ≤ c ∧ c ≤ 9223372036854775807 ∧ By w w.heap.size a n xs := by
  rcases open_ints Tryd.underlying22 Tryd.underlying5 (by kernel_rfl) hf with ⟨hcs, _⟩ | ⟨a, l, c, zs, hcs, _, hl, hm, hz, _, hc, hwf⟩
  · simp at hcs; subst hcs
    exact ⟨none, 0, 0, [], rfl, by omega, by omega, By.nil _ _ _⟩
  · simp at hcs; subst hcs
    have hzl : l ≤ zs.length := by rw [hz]; split <;> omega
    refine ⟨_, _, _, zs.take l, rfl, hl, hm, by simp; omega, fun b hb => ?_, fun hn => ?_⟩
    · have := bounds_u8 (hwf b (List.mem_of_mem_take hb)); exact this
    · obtain ⟨b, off, spot⟩ := a
      have hs : spot = none := by
        have h0 := World.cell?_spot (hc 0 (by omega))
        simpa [Addr.add] using h0
      subst hs
      refine ⟨b, off, rfl, ?_, fun k hk => ?_⟩
      · have := hc 0 (by omega); rw [add_plus] at this; exact World.block_lt_of_cell? _ _ this
      · have := hc k (by omega)
        rw [add_plus] at this
        rw [this]
        simp [List.getD, hk]
end Go.Proofs.YthabjihpjdlmoaaDoor
/- Slices of numbers: what is known of them. -/
namespace Go.Proofs.YthabjihpjdlmoaaDoor
open Go.ChangeShapes Go.WideShapes Go.ChangeAt Go.RowKit Go.Deep
set_option linter.unusedVariables false
/-- The slice reads as these numbers. -/
structure Nq (w : World) (B : Nat) (a : Option Addr) (n : Nat) (xs : List Int) : Prop where
  len : xs.length = n
  rd : 0 < n → ∃ b off, a = some ⟨b, off, none⟩ ∧ b < B ∧ ∀ k, k < n → w.cell? ⟨b, off + k, none⟩ = some (.int .i64 (xs.getD k 0))
theorem Nq.below {w w' : World} {B B' n : Nat} {a : Option Addr} {xs : List Int} (h : Nq w B a n xs) (hb : Below B' w w') (hB : B ≤ B') : Nq w' B a n xs := ⟨h.len, fun hn => by
  obtain ⟨b, off, e, hlt, hc⟩ := h.rd hn
  exact ⟨b, off, e, hlt, fun k hk => (hb.cell (p := ⟨b, off + k, none⟩) (Nat.lt_of_lt_of_le hlt hB)).trans (hc k hk)⟩⟩
theorem Nq.mono {w : World} {B B' n : Nat} {a : Option Addr} {xs : List Int} (h : Nq w B a n xs) (hB : B ≤ B') : Nq w B' a n xs := ⟨h.len, fun hn => by
  obtain ⟨b, off, e, hlt, hc⟩ := h.rd hn
  exact ⟨b, off, e, by omega, hc⟩⟩
theorem Nq.drewN {w : World} {B n : Nat} {a : Option Addr} {xs : List Int} (h : Nq w B a n xs) (m : Nat) : Nq (w.drewN m) B a n xs := ⟨h.len, h.rd⟩
theorem Nq.nil (w : World) (B : Nat) (a : Option Addr) : Nq w B a 0 [] := ⟨rfl, fun h => absurd h (by omega)⟩
theorem aq_plus {b off : Nat} (j : Nat) : (⟨b, off, none⟩ : Addr).add j = ⟨b, off + j, none⟩ := by
  unfold Addr.add; split <;> simp_all
theorem nq_of {H : Type} {enc : TypeId × Value → H} {w : World} {base : Nat} {spare : Nat → Bool} {held : Bool} {fuel : Nat} {x : DataW H × List MemPlace} {v : Value}
    (hf : DataW.trod enc Tryd.prog w base spare held fuel 26 [v] = some x) : ∃ a0 len0 cap0 xs, v = .slice a0 len0 cap0 ∧ len0 ≤ 9223372036854775807 ∧ Nq w w.heap.size a0 len0 xs := by
  rcases open_ints Tryd.underlying26 Tryd.underlying3 (by kernel_rfl) hf with ⟨hcs, _⟩ | ⟨a, l, c, zs, hcs, _, hl, hm, hz, _, hc, hwf⟩
  · simp at hcs; subst hcs
    exact ⟨none, 0, 0, [], rfl, by omega, rfl, fun h => absurd h (by omega)⟩
  · simp at hcs; subst hcs
    have hzl : l ≤ zs.length := by rw [hz]; split <;> omega
    refine ⟨_, _, _, zs.take l, rfl, by unfold maxLen at hm; omega, by simp; omega, fun hn => ?_⟩
    obtain ⟨b, off, spot⟩ := a
    have hs : spot = none := by
      have h0 := World.cell?_spot (hc 0 (by omega))
      simpa [Addr.add] using h0
    subst hs
    refine ⟨b, off, rfl, ?_, fun k hk => ?_⟩
    · have := hc 0 (by omega); rw [aq_plus] at this; exact World.block_lt_of_cell? _ _ this
    · have := hc k (by omega)
      rw [aq_plus] at this
      rw [this]
      simp [List.getD, hk]
end Go.Proofs.YthabjihpjdlmoaaDoor
/- Layer 6: the list of neighbours; lists compared. -/
namespace Go.Proofs.YthabjihpjdlmoaaDoor
open Go.RowKit
set_option linter.unusedVariables false
/-- What the neighbours' list is: new memory. -/
def NearR (w : World) (xs : List Int) (e : Ending) (w' : World) : Prop := ∃ g, e = .returned (.tuple #[.slice (some ⟨g, 0, none⟩) 8 8, .int .i64 0]) ∧ w.heap.size ≤ g ∧ g < w'.heap.size ∧ xs.length = 8 ∧ (∀ j, j < 8 → w'.cell? ⟨g, j, none⟩ = some (.int .i64 (xs.getD j 0))) ∧ (∀ j, w'.frozen? ⟨g, j, none⟩ = false) ∧ Below w.heap.size w w'
theorem nb_lit (w2 : World) (W H t : Int) (T : TypeId) : ∀ j, j < 8 → (w2.alloc (.cells #[.int .i64 (nb W H t 0), .int .i64 (nb W H t 1), .int .i64 (nb W H t 2), .int .i64 (nb W H t 3), .int .i64 (nb W H t 4), .int .i64 (nb W H t 5), .int .i64 (nb W H t 6), .int .i64 (nb W H t 7)] T)).cell? ⟨w2.heap.size, j, none⟩ = some (.int .i64 ((nbL W H t).getD j 0)) := fun j hj => by
  match j, hj with
  | 0, _ | 1, _ | 2, _ | 3, _ | 4, _ | 5, _ | 6, _ | 7, _ => (rw [World.cell?_alloc_mark]; rfl)
theorem eqn_yes (a a' : Option Addr) (n c c' B B' : Nat) (xs : List Int) (w : World) (h : Nq w B a n xs) (h' : Nq w B' a' n xs) (hn : n ≤ 1099511627776) :
    Calls Tryd.prog 29 #[.slice a n c, .slice a' n c'] w fun e w' => e = .returned (.bool true) ∧ ∃ m, w' = w.drewN m := by
  have H := Hk.mk h
  have H' := Hk.mk h'
  clear h h'
  go_enter Tryd.func29, Tryd.ntmps29
  go_wp2
  go_loopw [5] (fun i wr => ∃ k : Nat, k ≤ n ∧ i = .int .i64 k ∧ Hk (∃ m, wr = w.drewN m)) (fun i _ => n - (intOf i).toNat)
  case atStart => exact ⟨0, Nat.zero_le _, rfl, ⟨0, rfl⟩⟩
  case round =>
    obtain ⟨k, hk, rfl, HB⟩ := hrel
    by_cases hlt : k < n
    · obtain ⟨b, off, rfl, hbl, hc⟩ := H.out.rd (by omega)
      obtain ⟨b', off', rfl, hbl', hc'⟩ := H'.out.rd (by omega)
      have hcx : wr.cell? ⟨b, off + k, none⟩ = some (.int .i64 (xs.getD k 0)) := by obtain ⟨m, rfl⟩ := HB.out; exact hc k hlt
      have hcy : wr.cell? ⟨b', off' + k, none⟩ = some (.int .i64 (xs.getD k 0)) := by obtain ⟨m, rfl⟩ := HB.out; exact hc' k hlt
      clear hc hc'
      generalize xs.getD k 0 = x at *
      have i1 : (0 : Int) ≤ (k : Int) := by omega
      have i2 : (k : Int) < (n : Int) := by omega
      go_wp2
      go_quiet (fail)
      go_wp2
      go_roundw
      case rel => exact ⟨k + 1, by omega, by go_num, ⟨by obtain ⟨m, rfl⟩ := HB.out; exact ⟨_, by rw [World.drewN_drewN]⟩⟩⟩
      case measure => simp [intOf]; omega
    · have hkn : k = n := by omega
      subst hkn
      go_wp2
      go_ret
      exact ⟨rfl, HB.out⟩
end Go.Proofs.YthabjihpjdlmoaaDoor
