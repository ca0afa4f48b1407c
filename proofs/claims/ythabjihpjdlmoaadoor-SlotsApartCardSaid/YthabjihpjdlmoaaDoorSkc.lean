import Derived.Test.YthabjihpjdlmoaaDoorSkb
import Derived.ProofKit
import Derived.LaidMore
import Derived.OpenShut
import Derived.Stop.Joined
import Derived.Test.YthabjihpjdlmoaaDoorRows
import Derived.Test.YthabjihpjdlmoaaDoorChecked
/- Layer 6: whether a number is a tile's. -/
namespace Go.Proofs.YthabjihpjdlmoaaDoor
open Go.RowKit
set_option linter.unusedVariables false
theorem bcellg {W w1 : World} (hb : Below W.heap.size W w1) : (∀ b o, b < W.heap.size → w1.cell? ⟨b, o, none⟩ = W.cell? ⟨b, o, none⟩) ∧ (∀ b o, b < W.heap.size → w1.frozen? ⟨b, o, none⟩ = W.frozen? ⟨b, o, none⟩) :=
  ⟨fun b o h => hb.cell (p := ⟨b, o, none⟩) h, fun b o h => hb.frozen (p := ⟨b, o, none⟩) h⟩
def ctE (W H : Int) (n : Nat) (xs : List Int) (t : Int) : Int := if gB W H n xs = true then (if 0 ≤ t ∧ t < W * H then 0 else 3) else 1
theorem ctE_yes {W H t : Int} {n : Nat} {xs : List Int} (g : GOk W H n xs) (h0 : 0 ≤ t) (h1 : t < W * H) : ctE W H n xs t = 0 := by unfold ctE; rw [if_pos (gB_yes g), if_pos ⟨h0, h1⟩]
theorem ctE_none {W H t : Int} {n : Nat} {xs : List Int} (g : GOk W H n xs) (h : ¬ (0 ≤ t ∧ t < W * H)) : ctE W H n xs t = 3 := by unfold ctE; rw [if_pos (gB_yes g), if_neg h]
theorem ctE_form {W H t : Int} {n : Nat} {xs : List Int} (g : ¬ GOk W H n xs) : ctE W H n xs t = 1 := by unfold ctE; rw [if_neg (by rw [gB_no g]; decide)]
end Go.Proofs.YthabjihpjdlmoaaDoor
/- Layer 6: places of tiles. -/
namespace Go.Proofs.YthabjihpjdlmoaaDoor
open Go.RowKit
set_option linter.unusedVariables false
end Go.Proofs.YthabjihpjdlmoaaDoor
/- Layer 6: tiles of places. -/
namespace Go.Proofs.YthabjihpjdlmoaaDoor
open Go.RowKit
set_option linter.unusedVariables false
theorem rtile_any (t W H : Int) (s : Value) (w : World) (w1 : 1 ≤ W) (w2 : W ≤ 128) (h1 : 1 ≤ H) (h2 : H ≤ 128) :
    Calls Tryd.prog 25 #[.agg #[.int .i64 W, .int .i64 H, s], .int .i64 t] w fun e' w' => e' = .returned (.bool (decide (0 ≤ t ∧ t < W * H))) ∧ Below w.heap.size w w' := by
  obtain ⟨m1, m2⟩ := mul_bd w1 w2 h1 h2
  by_cases t0 : 0 ≤ t
  · have b1 : decide (0 ≤ t) = true := by simp; omega
    by_cases t1 : t < W * H
    · have b2 : decide (t < W * H) = true := by simp; omega
      go_enter Tryd.func25, Tryd.ntmps25
      go_wp2
      go_ret
      exact ⟨rbo (by first | (simp; omega) | (simp; done)), (Below.refl _ _).alloc (Nat.le_refl _) _⟩
    · have b2 : decide (t < W * H) = false := by simp; omega
      go_enter Tryd.func25, Tryd.ntmps25
      go_wp2
      go_ret
      exact ⟨rbo (by first | (simp; omega) | (simp; done)), (Below.refl _ _).alloc (Nat.le_refl _) _⟩
  · have b1 : decide (0 ≤ t) = false := by simp; omega
    go_enter Tryd.func25, Tryd.ntmps25
    go_wp2
    go_ret
    exact ⟨rbo (by first | (simp; omega) | (simp; done)), (Below.refl _ _).alloc (Nat.le_refl _) _⟩
end Go.Proofs.YthabjihpjdlmoaaDoor
/- Layer 6: centres of tiles. -/
namespace Go.Proofs.YthabjihpjdlmoaaDoor
open Go.RowKit
set_option linter.unusedVariables false
theorem wr_in {x : Int} (h : -9223372036854775808 ≤ x ∧ x ≤ 9223372036854775807) : IntKind.i64.wrap x = x := IntWalk.i64_in _ ⟨h.1, h.2⟩
set_option maxHeartbeats 800000 in
theorem rcenter_any (W H t : Int) (s : Value) (w : World) (w1 : 1 ≤ W) (w2 : W ≤ 128) (t0 : 0 ≤ t) (t1 : t ≤ 16384) :
    Calls Tryd.prog 51 #[.agg #[.int .i64 W, .int .i64 H, s], .int .i64 t] w fun e' w' => e' = .returned (.agg #[.int .i64 (t % W * 65536 + 32768), .int .i64 (t / W * 65536 + 32768)]) ∧ Below w.heap.size w w' := by
  have q1 : 0 ≤ t % W := Int.emod_nonneg _ (by omega)
  have q2 : t % W < W := Int.emod_lt_of_pos _ (by omega)
  have q3 : 0 ≤ t / W := Int.ediv_nonneg t0 (by omega)
  have q4 : t / W ≤ t := Int.ediv_le_self _ t0
  have r1 : t.tmod W = t % W := Int.tmod_eq_emod_of_nonneg t0
  have r2 : t.tdiv W = t / W := Int.tdiv_eq_ediv_of_nonneg t0
  have w0 : ¬ W = 0 := by omega
  have e1 : IntKind.i64.wrap (t % W * 65536) = t % W * 65536 := wr_in (by omega)
  have e2 : IntKind.i64.wrap (t % W * 65536 + 32768) = t % W * 65536 + 32768 := wr_in (by omega)
  have e3 : IntKind.i64.wrap (t / W) = t / W := wr_in (by omega)
  have e4 : IntKind.i64.wrap (t / W * 65536) = t / W * 65536 := wr_in (by omega)
  have e5 : IntKind.i64.wrap (t / W * 65536 + 32768) = t / W * 65536 + 32768 := wr_in (by omega)
  go_enter Tryd.func51, Tryd.ntmps51
  go_wp2
  go_region_held3 (fun w' => w'.cell? ⟨w.heap.size, 0, none⟩ = some (.int .i64 W)) (go_keep) (fail)
  all_goals
    go_wp2
    refine bodyPost_ret (v := .agg #[.int .i64 (t % W * 65536 + 32768), .int .i64 (t / W * 65536 + 32768)]) (by simp [results, Tryd.results51, go_sem]) rfl ⟨rfl, ?_⟩
    exact (((Below.refl _ _).alloc (Nat.le_refl _) _).alloc (by simp <;> omega) _).drew
end Go.Proofs.YthabjihpjdlmoaaDoor
/- Layer 6: centres, tiles of places. -/
namespace Go.Proofs.YthabjihpjdlmoaaDoor
open Go.RowKit
set_option linter.unusedVariables false
end Go.Proofs.YthabjihpjdlmoaaDoor
/- Layer 6: the ways to the neighbours, as the table has them; what a neighbour is. -/
namespace Go.Proofs.YthabjihpjdlmoaaDoor
open Go.ChangeShapes Go.WideShapes Go.ChangeAt Go.RowKit
set_option linter.unusedVariables false
def dxL : List Int := [0, 1, 0, -1, 1, 1, -1, -1]
def dyL : List Int := [-1, 0, 1, 0, -1, 1, 1, -1]
def oL : List Int := [0, -1, 1, 0, 0, 1, -1, 0, 1, -1, 1, 1, -1, 1, -1, -1]
theorem one_atn {cs : List Value} {a n j : Nat} {v : Value} (hj : j < n) (h : (((cs.drop a).take n).drop j).take 1 = [v]) : cs[a + j]? = some v := by
  have h1 := congrArg (fun l : List Value => l[0]?) h
  simp only [List.getElem?_take, List.getElem?_drop] at h1
  simpa [hj] using h1
section
variable {H : Type} {enc : TypeId × Value → H} {w : World} {base : Nat} {sp : Nat → Bool} {held : Bool}
theorem int_isn {t : TypeId} {fuel : Nat} {cs : List Value} {x : DataW H × List MemPlace} {z : Int} (ht : Tryd.prog.underlying t = some (.int .i64)) (h : DataW.trod enc Tryd.prog w base sp held fuel t cs = some x) (hx : x.1 = .lit (.int .i64 z)) : cs = [.int .i64 z] := by
  obtain ⟨n, rfl, e, _⟩ := DataW.trod_int ht h
  rw [e] at hx
  simp at hx
  rw [hx]
theorem off_is {fuel : Nat} {cs : List Value} {x : DataW H × List MemPlace} {n0 n1 : Int} (h : DataW.trod enc Tryd.prog w base sp held fuel 180 cs = some x)
    (hx : x.1 = .agg [.lit (.int .i64 n0), .lit (.int .i64 n1)]) :
    ∀ j, j < 2 → (cs.drop j).take 1 = [.int .i64 ([n0, n1].getD j 0)] := by
  have h3 : Tryd.prog.cellsOf 3 = 1 := by kernel_rfl
  obtain ⟨ys, n', _, e, _, hyl, hg⟩ := DataW.trod_struct Tryd.underlying180 h
  match ys, hyl with
  | [y0, y1], _ =>
    rw [e] at hx
    simp at hx
    obtain ⟨e0, e1⟩ := hx
    have g0 : DataW.trod enc Tryd.prog w base sp held n' 3 ((cs.drop 0).take (Tryd.prog.cellsOf 3)) = some y0 := hg 0 _ rfl
    rw [h3] at g0
    have g1 : DataW.trod enc Tryd.prog w base sp held n' 3 ((cs.drop 1).take (Tryd.prog.cellsOf 3)) = some y1 := hg 1 _ rfl
    rw [h3] at g1
    intro j hj
    match j, hj with
    | 0, _ => exact int_isn Tryd.underlying3 g0 e0
    | 1, _ => exact int_isn Tryd.underlying3 g1 e1
end
/-- What the walks lean on: the table's cells. -/
structure LT (w : World) : Prop where
  offs : ∀ i j, i < 8 → j < 2 → w.cell? ⟨2, i * 2 + j, none⟩ = some (.int .i64 (oL.getD (i * 2 + j) 0))
  size : 2 < w.heap.size
theorem LT.below {B : Nat} {w w' : World} (h : LT w) (hb : Below B w w') (hB : w.heap.size ≤ B) : LT w' :=
  ⟨fun i j hi hj => (hb.cell (p := ⟨2, i * 2 + j, none⟩) (by have := h.size; show 2 < B; omega)).trans (h.offs i j hi hj), Nat.lt_of_lt_of_le h.size hb.size⟩
theorem LT.drewN {w : World} (h : LT w) (n : Nat) : LT (w.drewN n) := ⟨h.offs, h.size⟩
theorem gOffs : Tryd.prog.globalNamed "throng/tiles.offsets" = some 2 := by kernel_rfl
theorem tOffs : (Tryd.prog.globals[2]?).map (·.type) = some 181 := by kernel_rfl
theorem of_laidT {W : World} (h : laidMetH Tryd.prog [("throng/tiles.offsets", Rows.laid_throng_tiles_offsets)] W) : LT W := by
  rw [MakeChecks.laidMetH_plain _ _ _ (by kernel_rfl)] at h
  obtain ⟨ps, ⟨g0, t0, cs0, f0, p0, q0, hg0, ht0, hv0, hd0, _, _⟩, _, _⟩ := h
  obtain rfl := Option.some.inj (gOffs.symm.trans hg0)
  obtain rfl := Option.some.inj (tOffs.symm.trans ht0)
  have c2 : Tryd.prog.cellsOf 180 = 2 := by kernel_rfl
  have K : ∀ i j, i < 8 → j < 2 → W.cell? ⟨2, i * 2 + j, none⟩ = some (.int .i64 (oL.getD (i * 2 + j) 0)) := by
    obtain ⟨xs, m, _, e, _, hyl, hg⟩ := DataW.trod_array Tryd.underlying181 hd0
    simp only [Prod.mk.injEq, Rows.laid_throng_tiles_offsets, DataW.agg.injEq] at e
    match xs, hyl with
    | [y0, y1, y2, y3, y4, y5, y6, y7], _ =>
      simp at e
      obtain ⟨⟨e0, e1, e2, e3, e4, e5, e6, e7⟩, _⟩ := e
      simp only [c2] at hg
      intro i j hi hj
      have gi := hg i hi
      rw [World.var?_cell hg0 hv0 (i * 2 + j), ← Array.getElem?_toList]
      match i, hi, gi with
      | 0, _, gi => rw [one_atn hj (off_is gi e0.symm j hj)]; match j, hj with | 0, _ => rfl | 1, _ => rfl
      | 1, _, gi => rw [one_atn hj (off_is gi e1.symm j hj)]; match j, hj with | 0, _ => rfl | 1, _ => rfl
      | 2, _, gi => rw [one_atn hj (off_is gi e2.symm j hj)]; match j, hj with | 0, _ => rfl | 1, _ => rfl
      | 3, _, gi => rw [one_atn hj (off_is gi e3.symm j hj)]; match j, hj with | 0, _ => rfl | 1, _ => rfl
      | 4, _, gi => rw [one_atn hj (off_is gi e4.symm j hj)]; match j, hj with | 0, _ => rfl | 1, _ => rfl
      | 5, _, gi => rw [one_atn hj (off_is gi e5.symm j hj)]; match j, hj with | 0, _ => rfl | 1, _ => rfl
      | 6, _, gi => rw [one_atn hj (off_is gi e6.symm j hj)]; match j, hj with | 0, _ => rfl | 1, _ => rfl
      | 7, _, gi => rw [one_atn hj (off_is gi e7.symm j hj)]; match j, hj with | 0, _ => rfl | 1, _ => rfl
  exact ⟨K, World.block_lt_of_cell? _ _ (K 0 0 (by omega) (by omega))⟩
/-- The neighbour of t in way k, or -1. -/
def nbS (W H t dx dy : Int) : Int := if 0 ≤ t % W + dx ∧ t % W + dx < W ∧ 0 ≤ t / W + dy ∧ t / W + dy < H then t % W + dx + W * (t / W + dy) else -1
def nb (W H t : Int) (k : Nat) : Int := nbS W H t (dxL.getD k 0) (dyL.getD k 0)
def nbL (W H t : Int) : List Int := (List.range 8).map (nb W H t)
end Go.Proofs.YthabjihpjdlmoaaDoor
