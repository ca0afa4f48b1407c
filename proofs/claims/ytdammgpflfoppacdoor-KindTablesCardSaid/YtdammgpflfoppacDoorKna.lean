/- Layer 5: what the two tables hold, cell by cell. -/
import Derived.Test.YtdammgpflfoppacDoorRows
import Derived.Test.YtdammgpflfoppacDoorChecked
import Derived.ProofKit
import Derived.LaidMore
import Derived.OpenShut
import Derived.Stop.Joined
import Derived.WalkKit
import Derived.WalkLawsBesides
import Derived.WalkSpells
import Derived.Outline
import Derived.Deep.QuietTactic
import Derived.BigQuiet
import Derived.Deep.RegionHeld3
namespace Go.Proofs.YtdammgpflfoppacDoor
open Go.ChangeShapes Go.WideShapes Go.ChangeAt Go.RowKit
set_option linter.unusedVariables false
structure Hk (p : Prop) : Prop where
  out : p
def kL : List Int := [24576, 16384, 0, 0, 0, 32768, 24576, 1, 0, 0, 81920, 8192, 0, 1, 0, 32768, 16384, 2, 0, 4]
def cL : List Int := [2, 1, 3, 5, 0, 0, 2, 1, 6, 0, 0, 0, 2, 1, 0, 3, 2, 0]
theorem one_at {cs : List Value} {a n j : Nat} {v : Value} (hj : j < n) (h : (((cs.drop a).take n).drop j).take 1 = [v]) : cs[a + j]? = some v := by
  have h1 := congrArg (fun l : List Value => l[0]?) h
  simp only [List.getElem?_take, List.getElem?_drop] at h1
  simpa [hj] using h1
section
variable {H : Type} {enc : TypeId × Value → H} {w : World} {base : Nat} {sp : Nat → Bool} {held : Bool}
theorem int_is {t : TypeId} {fuel : Nat} {cs : List Value} {x : DataW H × List MemPlace} {z : Int} (ht : Tryd.prog.underlying t = some (.int .i64)) (h : DataW.trod enc Tryd.prog w base sp held fuel t cs = some x) (hx : x.1 = .lit (.int .i64 z)) : cs = [.int .i64 z] := by
  obtain ⟨n, rfl, e, _⟩ := DataW.trod_int ht h
  rw [e] at hx
  simp at hx
  rw [hx]
theorem kind_is {fuel : Nat} {cs : List Value} {x : DataW H × List MemPlace} {n0 n1 n2 n3 n4 : Int} (h : DataW.trod enc Tryd.prog w base sp held fuel 24 cs = some x)
    (hx : x.1 = .agg [.lit (.int .i64 n0), .lit (.int .i64 n1), .lit (.int .i64 n2), .lit (.int .i64 n3), .lit (.int .i64 n4)]) :
    ∀ j, j < 5 → (cs.drop j).take 1 = [.int .i64 ([n0, n1, n2, n3, n4].getD j 0)] := by
  have h2 : Tryd.prog.cellsOf 2 = 1 := by kernel_rfl
  have h3 : Tryd.prog.cellsOf 3 = 1 := by kernel_rfl
  obtain ⟨ys, n', _, e, _, hyl, hg⟩ := DataW.trod_struct Tryd.underlying24 h
  match ys, hyl with
  | [y0, y1, y2, y3, y4], _ =>
    rw [e] at hx
    simp at hx
    obtain ⟨e0, e1, e2, e3, e4⟩ := hx
    have g0 : DataW.trod enc Tryd.prog w base sp held n' 2 ((cs.drop 0).take (Tryd.prog.cellsOf 2)) = some y0 := hg 0 _ rfl
    rw [h2] at g0
    have g1 : DataW.trod enc Tryd.prog w base sp held n' 2 ((cs.drop 1).take (Tryd.prog.cellsOf 2)) = some y1 := hg 1 _ rfl
    rw [h2] at g1
    have g2 : DataW.trod enc Tryd.prog w base sp held n' 3 ((cs.drop 2).take (Tryd.prog.cellsOf 3)) = some y2 := hg 2 _ rfl
    rw [h3] at g2
    have g3 : DataW.trod enc Tryd.prog w base sp held n' 3 ((cs.drop 3).take (Tryd.prog.cellsOf 3)) = some y3 := hg 3 _ rfl
    rw [h3] at g3
    have g4 : DataW.trod enc Tryd.prog w base sp held n' 3 ((cs.drop 4).take (Tryd.prog.cellsOf 3)) = some y4 := hg 4 _ rfl
    rw [h3] at g4
    intro j hj
    match j, hj with
    | 0, _ => exact int_is Tryd.underlying2 g0 e0
    | 1, _ => exact int_is Tryd.underlying2 g1 e1
    | 2, _ => exact int_is Tryd.underlying3 g2 e2
    | 3, _ => exact int_is Tryd.underlying3 g3 e3
    | 4, _ => exact int_is Tryd.underlying3 g4 e4
theorem row_is {fuel : Nat} {cs : List Value} {x : DataW H × List MemPlace} {n0 n1 n2 n3 n4 n5 : Int} (h : DataW.trod enc Tryd.prog w base sp held fuel 38 cs = some x)
    (hx : x.1 = .agg [.lit (.int .i64 n0), .lit (.int .i64 n1), .lit (.int .i64 n2), .lit (.int .i64 n3), .lit (.int .i64 n4), .lit (.int .i64 n5)]) :
    ∀ j, j < 6 → (cs.drop j).take 1 = [.int .i64 ([n0, n1, n2, n3, n4, n5].getD j 0)] := by
  have h3 : Tryd.prog.cellsOf 3 = 1 := by kernel_rfl
  obtain ⟨ys, n', _, e, _, hyl, hg⟩ := DataW.trod_array Tryd.underlying38 h
  match ys, hyl with
  | [y0, y1, y2, y3, y4, y5], _ =>
    rw [e] at hx
    simp at hx
    obtain ⟨e0, e1, e2, e3, e4, e5⟩ := hx
    simp only [h3, Nat.mul_one] at hg
    intro j hj
    have gj := hg j hj
    match j, hj, gj with
    | 0, _, gj => exact int_is Tryd.underlying3 gj e0
    | 1, _, gj => exact int_is Tryd.underlying3 gj e1
    | 2, _, gj => exact int_is Tryd.underlying3 gj e2
    | 3, _, gj => exact int_is Tryd.underlying3 gj e3
    | 4, _, gj => exact int_is Tryd.underlying3 gj e4
    | 5, _, gj => exact int_is Tryd.underlying3 gj e5
end
/-- What the walks lean on: the tables' cells. -/
structure LK (w : World) : Prop where
  kinds : ∀ i j, i < 4 → j < 5 → w.cell? ⟨0, i * 5 + j, none⟩ = some (.int .i64 (kL.getD (i * 5 + j) 0))
  costs : ∀ i j, i < 3 → j < 6 → w.cell? ⟨1, i * 6 + j, none⟩ = some (.int .i64 (cL.getD (i * 6 + j) 0))
  size : 1 < w.heap.size
theorem LK.below {B : Nat} {w w' : World} (h : LK w) (hb : Below B w w') (hB : w.heap.size ≤ B) : LK w' :=
  ⟨fun i j hi hj => (hb.cell (p := ⟨0, i * 5 + j, none⟩) (by have := h.size; show 0 < B; omega)).trans (h.kinds i j hi hj), fun i j hi hj => (hb.cell (p := ⟨1, i * 6 + j, none⟩) (by have := h.size; show 1 < B; omega)).trans (h.costs i j hi hj), Nat.lt_of_lt_of_le h.size hb.size⟩
theorem LK.drewN {w : World} (h : LK w) (n : Nat) : LK (w.drewN n) := ⟨h.kinds, h.costs, h.size⟩
theorem gKinds : Tryd.prog.globalNamed "throng/kind.kinds" = some 0 := by kernel_rfl
theorem gCosts : Tryd.prog.globalNamed "throng/kind.costs" = some 1 := by kernel_rfl
theorem tKinds : (Tryd.prog.globals[0]?).map (·.type) = some 37 := by kernel_rfl
theorem tCosts : (Tryd.prog.globals[1]?).map (·.type) = some 39 := by kernel_rfl
theorem of_laid {W : World} (h : laidMetH Tryd.prog [("throng/kind.kinds", Rows.laid_throng_kind_kinds), ("throng/kind.costs", Rows.laid_throng_kind_costs)] W) : LK W := by
  rw [MakeChecks.laidMetH_plain _ _ _ (by kernel_rfl)] at h
  obtain ⟨ps, ⟨g0, t0, cs0, f0, p0, q0, hg0, ht0, hv0, hd0, ⟨g1, t1, cs1, f1, p1, q1, hg1, ht1, hv1, hd1, _, _⟩, _⟩, _, _⟩ := h
  obtain rfl := Option.some.inj (gKinds.symm.trans hg0)
  obtain rfl := Option.some.inj (gCosts.symm.trans hg1)
  obtain rfl := Option.some.inj (tKinds.symm.trans ht0)
  obtain rfl := Option.some.inj (tCosts.symm.trans ht1)
  have c24 : Tryd.prog.cellsOf 24 = 5 := by kernel_rfl
  have c38 : Tryd.prog.cellsOf 38 = 6 := by kernel_rfl
  have K : ∀ i j, i < 4 → j < 5 → W.cell? ⟨0, i * 5 + j, none⟩ = some (.int .i64 (kL.getD (i * 5 + j) 0)) := by
    obtain ⟨xs, m, _, e, _, hyl, hg⟩ := DataW.trod_array Tryd.underlying37 hd0
    simp only [Prod.mk.injEq, Rows.laid_throng_kind_kinds, DataW.agg.injEq] at e
    match xs, hyl with
    | [y0, y1, y2, y3], _ =>
      simp at e
      obtain ⟨⟨e0, e1, e2, e3⟩, _⟩ := e
      simp only [c24] at hg
      intro i j hi hj
      have gi := hg i hi
      rw [World.var?_cell hg0 hv0 (i * 5 + j), ← Array.getElem?_toList]
      match i, hi, gi with
      | 0, _, gi => rw [one_at hj (kind_is gi e0.symm j hj)]; match j, hj with | 0, _ => rfl | 1, _ => rfl | 2, _ => rfl | 3, _ => rfl | 4, _ => rfl
      | 1, _, gi => rw [one_at hj (kind_is gi e1.symm j hj)]; match j, hj with | 0, _ => rfl | 1, _ => rfl | 2, _ => rfl | 3, _ => rfl | 4, _ => rfl
      | 2, _, gi => rw [one_at hj (kind_is gi e2.symm j hj)]; match j, hj with | 0, _ => rfl | 1, _ => rfl | 2, _ => rfl | 3, _ => rfl | 4, _ => rfl
      | 3, _, gi => rw [one_at hj (kind_is gi e3.symm j hj)]; match j, hj with | 0, _ => rfl | 1, _ => rfl | 2, _ => rfl | 3, _ => rfl | 4, _ => rfl
  have C : ∀ i j, i < 3 → j < 6 → W.cell? ⟨1, i * 6 + j, none⟩ = some (.int .i64 (cL.getD (i * 6 + j) 0)) := by
    obtain ⟨xs, m, _, e, _, hyl, hg⟩ := DataW.trod_array Tryd.underlying39 hd1
    simp only [Prod.mk.injEq, Rows.laid_throng_kind_costs, DataW.agg.injEq] at e
    match xs, hyl with
    | [y0, y1, y2], _ =>
      simp at e
      obtain ⟨⟨e0, e1, e2⟩, _⟩ := e
      simp only [c38] at hg
      intro i j hi hj
      have gi := hg i hi
      rw [World.var?_cell hg1 hv1 (i * 6 + j), ← Array.getElem?_toList]
      match i, hi, gi with
      | 0, _, gi => rw [one_at hj (row_is gi e0.symm j hj)]; match j, hj with | 0, _ => rfl | 1, _ => rfl | 2, _ => rfl | 3, _ => rfl | 4, _ => rfl | 5, _ => rfl
      | 1, _, gi => rw [one_at hj (row_is gi e1.symm j hj)]; match j, hj with | 0, _ => rfl | 1, _ => rfl | 2, _ => rfl | 3, _ => rfl | 4, _ => rfl | 5, _ => rfl
      | 2, _, gi => rw [one_at hj (row_is gi e2.symm j hj)]; match j, hj with | 0, _ => rfl | 1, _ => rfl | 2, _ => rfl | 3, _ => rfl | 4, _ => rfl | 5, _ => rfl
  exact ⟨K, C, World.block_lt_of_cell? _ _ (C 0 0 (by omega) (by omega))⟩
end Go.Proofs.YtdammgpflfoppacDoor
