import Derived.Deep.QuietTactic
import Derived.BigQuiet
import Derived.Deep.RegionWith
import Derived.Deep.RegionHeld3
import Derived.Deep.DeepCutAuto
import Derived.Deep.DeepFit
import Derived.Outline
import Derived.Test.YthabjihpjdlmoaaDoorSkd
import Derived.Test.YthabjihpjdlmoaaDoorSkg
/- Layer 13: the tables of costs, of ways and of sides together. -/
namespace Go.Proofs.YthabjihpjdlmoaaDoor
open Go.ChangeShapes Go.WideShapes Go.ChangeAt Go.RowKit
set_option linter.unusedVariables false
def sdL : List Int := [0, 1, 2, 1, 2, 3, 0, 3]
section
variable {H : Type} {enc : TypeId × Value → H} {w : World} {base : Nat} {sp : Nat → Bool} {held : Bool}
theorem side_is {fuel : Nat} {cs : List Value} {x : DataW H × List MemPlace} {n0 n1 : Int} (h : DataW.trod enc Tryd.prog w base sp held fuel 153 cs = some x)
    (hx : x.1 = .agg [.lit (.int .i64 n0), .lit (.int .i64 n1)]) :
    ∀ j, j < 2 → (cs.drop j).take 1 = [.int .i64 ([n0, n1].getD j 0)] := by
  have h3 : Tryd.prog.cellsOf 3 = 1 := by kernel_rfl
  obtain ⟨ys, n', _, e, _, hyl, hg⟩ := DataW.trod_array Tryd.underlying153 h
  match ys, hyl with
  | [y0, y1], _ =>
    rw [e] at hx
    simp at hx
    obtain ⟨e0, e1⟩ := hx
    simp only [h3, Nat.mul_one] at hg
    intro j hj
    have gj := hg j hj
    match j, hj, gj with
    | 0, _, gj => exact cst_int_is Tryd.underlying3 gj e0
    | 1, _, gj => exact cst_int_is Tryd.underlying3 gj e1
end
structure LS (w : World) : Prop where
  sides : ∀ i j, i < 4 → j < 2 → w.cell? ⟨0, i * 2 + j, none⟩ = some (.int .i64 (sdL.getD (i * 2 + j) 0))
  size : 0 < w.heap.size
theorem LS.below {B : Nat} {w w' : World} (h : LS w) (hb : Below B w w') (hB : w.heap.size ≤ B) : LS w' :=
  ⟨fun i j hi hj => (hb.cell (p := ⟨0, i * 2 + j, none⟩) (by have := h.size; show 0 < B; omega)).trans (h.sides i j hi hj), Nat.lt_of_lt_of_le h.size hb.size⟩
theorem LS.drewN {w : World} (h : LS w) (n : Nat) : LS (w.drewN n) := ⟨h.sides, h.size⟩
structure LF (w : World) : Prop where
  lc : LC w
  lt : LT w
  ls : LS w
theorem LF.below {B : Nat} {w w' : World} (h : LF w) (hb : Below B w w') (hB : w.heap.size ≤ B) : LF w' := ⟨h.lc.below hb hB, h.lt.below hb hB, h.ls.below hb hB⟩
theorem LF.drewN {w : World} (h : LF w) (n : Nat) : LF (w.drewN n) := ⟨h.lc.drewN n, h.lt.drewN n, h.ls.drewN n⟩
theorem gSides : Tryd.prog.globalNamed "throng/step.sides" = some 0 := by kernel_rfl
theorem tSides : (Tryd.prog.globals[0]?).map (·.type) = some 154 := by kernel_rfl
theorem of_laidF {W : World} (h : laidMetH Tryd.prog [("throng/kind.costs", Rows.laid_throng_kind_costs), ("throng/tiles.offsets", Rows.laid_throng_tiles_offsets), ("throng/step.sides", Rows.laid_throng_step_sides)] W) : LF W := by
  rw [MakeChecks.laidMetH_plain _ _ _ (by kernel_rfl)] at h
  obtain ⟨ps, ⟨g0, t0, cs0, f0, p0, q0, hg0, ht0, hv0, hd0, ⟨g1, t1, cs1, f1, p1, q1, hg1, ht1, hv1, hd1, ⟨g2, t2, cs2, f2, p2, q2, hg2, ht2, hv2, hd2, _, _⟩, _⟩, _⟩, _, _⟩ := h
  obtain rfl := Option.some.inj (gCosts.symm.trans hg0)
  obtain rfl := Option.some.inj (tCosts.symm.trans ht0)
  obtain rfl := Option.some.inj (gOffs.symm.trans hg1)
  obtain rfl := Option.some.inj (tOffs.symm.trans ht1)
  obtain rfl := Option.some.inj (gSides.symm.trans hg2)
  obtain rfl := Option.some.inj (tSides.symm.trans ht2)
  have c38 : Tryd.prog.cellsOf 115 = 6 := by kernel_rfl
  have c2 : Tryd.prog.cellsOf 180 = 2 := by kernel_rfl
  have c22 : Tryd.prog.cellsOf 153 = 2 := by kernel_rfl
  have C : ∀ i j, i < 3 → j < 6 → W.cell? ⟨1, i * 6 + j, none⟩ = some (.int .i64 (ctL.getD (i * 6 + j) 0)) := by
    obtain ⟨xs, m, _, e, _, hyl, hg⟩ := DataW.trod_array Tryd.underlying116 hd0
    simp only [Prod.mk.injEq, Rows.laid_throng_kind_costs, DataW.agg.injEq] at e
    match xs, hyl with
    | [y0, y1, y2], _ =>
      simp at e
      obtain ⟨⟨e0, e1, e2⟩, _⟩ := e
      simp only [c38] at hg
      intro i j hi hj
      have gi := hg i hi
      rw [World.var?_cell hg0 hv0 (i * 6 + j), ← Array.getElem?_toList]
      match i, hi, gi with
      | 0, _, gi => rw [cst_one_at hj (cst_row_is gi e0.symm j hj)]; match j, hj with | 0, _ => rfl | 1, _ => rfl | 2, _ => rfl | 3, _ => rfl | 4, _ => rfl | 5, _ => rfl
      | 1, _, gi => rw [cst_one_at hj (cst_row_is gi e1.symm j hj)]; match j, hj with | 0, _ => rfl | 1, _ => rfl | 2, _ => rfl | 3, _ => rfl | 4, _ => rfl | 5, _ => rfl
      | 2, _, gi => rw [cst_one_at hj (cst_row_is gi e2.symm j hj)]; match j, hj with | 0, _ => rfl | 1, _ => rfl | 2, _ => rfl | 3, _ => rfl | 4, _ => rfl | 5, _ => rfl
  have K : ∀ i j, i < 8 → j < 2 → W.cell? ⟨2, i * 2 + j, none⟩ = some (.int .i64 (oL.getD (i * 2 + j) 0)) := by
    obtain ⟨xs, m, _, e, _, hyl, hg⟩ := DataW.trod_array Tryd.underlying181 hd1
    simp only [Prod.mk.injEq, Rows.laid_throng_tiles_offsets, DataW.agg.injEq] at e
    match xs, hyl with
    | [y0, y1, y2, y3, y4, y5, y6, y7], _ =>
      simp at e
      obtain ⟨⟨e0, e1, e2, e3, e4, e5, e6, e7⟩, _⟩ := e
      simp only [c2] at hg
      intro i j hi hj
      have gi := hg i hi
      rw [World.var?_cell hg1 hv1 (i * 2 + j), ← Array.getElem?_toList]
      match i, hi, gi with
      | 0, _, gi => rw [one_atn hj (off_is gi e0.symm j hj)]; match j, hj with | 0, _ => rfl | 1, _ => rfl
      | 1, _, gi => rw [one_atn hj (off_is gi e1.symm j hj)]; match j, hj with | 0, _ => rfl | 1, _ => rfl
      | 2, _, gi => rw [one_atn hj (off_is gi e2.symm j hj)]; match j, hj with | 0, _ => rfl | 1, _ => rfl
      | 3, _, gi => rw [one_atn hj (off_is gi e3.symm j hj)]; match j, hj with | 0, _ => rfl | 1, _ => rfl
      | 4, _, gi => rw [one_atn hj (off_is gi e4.symm j hj)]; match j, hj with | 0, _ => rfl | 1, _ => rfl
      | 5, _, gi => rw [one_atn hj (off_is gi e5.symm j hj)]; match j, hj with | 0, _ => rfl | 1, _ => rfl
      | 6, _, gi => rw [one_atn hj (off_is gi e6.symm j hj)]; match j, hj with | 0, _ => rfl | 1, _ => rfl
      | 7, _, gi => rw [one_atn hj (off_is gi e7.symm j hj)]; match j, hj with | 0, _ => rfl | 1, _ => rfl
  have S : ∀ i j, i < 4 → j < 2 → W.cell? ⟨0, i * 2 + j, none⟩ = some (.int .i64 (sdL.getD (i * 2 + j) 0)) := by
    obtain ⟨xs, m, _, e, _, hyl, hg⟩ := DataW.trod_array Tryd.underlying154 hd2
    simp only [Prod.mk.injEq, Rows.laid_throng_step_sides, DataW.agg.injEq] at e
    match xs, hyl with
    | [y0, y1, y2, y3], _ =>
      simp at e
      obtain ⟨⟨e0, e1, e2, e3⟩, _⟩ := e
      simp only [c22] at hg
      intro i j hi hj
      have gi := hg i hi
      rw [World.var?_cell hg2 hv2 (i * 2 + j), ← Array.getElem?_toList]
      match i, hi, gi with
      | 0, _, gi => rw [cst_one_at hj (side_is gi e0.symm j hj)]; match j, hj with | 0, _ => rfl | 1, _ => rfl
      | 1, _, gi => rw [cst_one_at hj (side_is gi e1.symm j hj)]; match j, hj with | 0, _ => rfl | 1, _ => rfl
      | 2, _, gi => rw [cst_one_at hj (side_is gi e2.symm j hj)]; match j, hj with | 0, _ => rfl | 1, _ => rfl
      | 3, _, gi => rw [cst_one_at hj (side_is gi e3.symm j hj)]; match j, hj with | 0, _ => rfl | 1, _ => rfl
  exact ⟨⟨C, World.block_lt_of_cell? _ _ (C 0 0 (by omega) (by omega))⟩, ⟨K, World.block_lt_of_cell? _ _ (K 0 0 (by omega) (by omega))⟩, ⟨S, World.block_lt_of_cell? _ _ (S 0 0 (by omega) (by omega))⟩⟩
end Go.Proofs.YthabjihpjdlmoaaDoor
