import Derived.Test.YthabjihpjdlmoaaDoorSkc
import Derived.Test.YthabjihpjdlmoaaDoorSkb
import Derived.Maps.AppendAt
import Derived.Deep.QuietTactic
import Derived.BigQuiet
import Derived.Deep.RegionWith
import Derived.Deep.RegionHeld3
import Derived.Deep.DeepCutAuto
import Derived.Deep.DeepFit
import Derived.Outline
import Derived.Test.YthabjihpjdlmoaaDoorSka
/- Layer 6: the neighbours of a tile. -/
namespace Go.Proofs.YthabjihpjdlmoaaDoor
open Go.RowKit
set_option linter.unusedVariables false
/-- The eight cells of the answer under way, and the result's behind. -/
structure N8 (w0 w : World) (F : Nat → Int) : Prop where
  c : ∀ j, j < 8 → w.cell? ⟨w0.heap.size + 1, j, none⟩ = some (.int .i64 (F j))
  f : ∀ j, w.frozen? ⟨w0.heap.size + 1, j, none⟩ = false
  d : ∀ j, j < 8 → w.cell? ⟨w0.heap.size, j, none⟩ = some (.int .i64 0)
  g : ∀ j, w.frozen? ⟨w0.heap.size, j, none⟩ = false
  hs : w0.heap.size + 1 < w.heap.size
  hB : Below w0.heap.size w0 w
theorem N8.start (w : World) : N8 w ((w.alloc (.cells #[.int .i64 0, .int .i64 0, .int .i64 0, .int .i64 0, .int .i64 0, .int .i64 0, .int .i64 0, .int .i64 0] 88)).alloc (.cells #[.int .i64 0, .int .i64 0, .int .i64 0, .int .i64 0, .int .i64 0, .int .i64 0, .int .i64 0, .int .i64 0] 88)) (fun _ => 0) := by
  refine ⟨fun j hj => ?_, fun j => ?_, fun j hj => ?_, fun j => ?_, by simp, ((Below.refl _ _).alloc (Nat.le_refl _) _).alloc (by simp) _⟩
  · match j, hj with
    | 0, _ | 1, _ | 2, _ | 3, _ | 4, _ | 5, _ | 6, _ | 7, _ => go_simp
  · go_simp
  · match j, hj with
    | 0, _ | 1, _ | 2, _ | 3, _ | 4, _ | 5, _ | 6, _ | 7, _ => go_simp
  · go_simp
theorem N8.next {w0 w w' : World} {F : Nat → Int} (h : N8 w0 w F) (hb : Below w.heap.size w w') : N8 w0 w' F := by
  have hs := h.hs
  have a0 : w0.heap.size < w.heap.size := by omega
  exact ⟨fun j hj => (hb.cell (p := ⟨w0.heap.size + 1, j, none⟩) hs).trans (h.c j hj), fun j => (hb.frozen (p := ⟨w0.heap.size + 1, j, none⟩) hs).trans (h.f j),
    fun j hj => (hb.cell (p := ⟨w0.heap.size, j, none⟩) a0).trans (h.d j hj), fun j => (hb.frozen (p := ⟨w0.heap.size, j, none⟩) a0).trans (h.g j), Nat.lt_of_lt_of_le hs hb.size, h.hB.trans (hb.mono h.hB.size)⟩
theorem N8.alloc {w0 w : World} {F : Nat → Int} (h : N8 w0 w F) (o : Obj) : N8 w0 (w.alloc o) F := h.next ((Below.refl _ _).alloc (Nat.le_refl _) _)
theorem N8.drewN {w0 w : World} {F : Nat → Int} (h : N8 w0 w F) (n : Nat) : N8 w0 (w.drewN n) F := ⟨h.c, h.f, h.d, h.g, h.hs, below_drewN h.hB n⟩
theorem N8.set {w0 w : World} {F G : Nat → Int} (h : N8 w0 w F) (k : Nat) (v : Int) (hk : k < 8) (e : G k = v) (e' : ∀ j, j < 8 → j ≠ k → G j = F j) : N8 w0 (w.setCell ⟨w0.heap.size + 1, k, none⟩ (.int .i64 v)) G := by
  refine ⟨fun j hj => ?_, fun j => ?_, fun j hj => ?_, fun j => ?_, ?_, ?_⟩
  · by_cases ej : j = k
    · subst ej; rw [e]; exact World.cell?_setCell_same _ _ _ (u := .int .i64 (F j)) (h.c j hj)
    · rw [World.cell?_setCell_other _ _ _ _ (by simp <;> omega), e' j hj ej]; exact h.c j hj
  · simpa using h.f j
  · rw [World.cell?_setCell_other _ _ _ _ (by simp)]; exact h.d j hj
  · simpa using h.g j
  · simpa using h.hs
  · exact h.hB.setCell (by simp) _
theorem nbS_yes {W H t dx dy : Int} (a : 0 ≤ t % W + dx) (b : t % W + dx < W) (c : 0 ≤ t / W + dy) (d : t / W + dy < H) : nbS W H t dx dy = t % W + dx + W * (t / W + dy) := by unfold nbS; rw [if_pos ⟨a, b, c, d⟩]
theorem nbS_no {W H t dx dy : Int} (h : ¬ (0 ≤ t % W + dx ∧ t % W + dx < W ∧ 0 ≤ t / W + dy ∧ t / W + dy < H)) : nbS W H t dx dy = -1 := by unfold nbS; rw [if_neg h]
theorem d_bd (k : Nat) : (-1 ≤ dxL.getD k 0 ∧ dxL.getD k 0 ≤ 1) ∧ (-1 ≤ dyL.getD k 0 ∧ dyL.getD k 0 ≤ 1) := by
  by_cases h : k < 8
  · match k, h with
    | 0, _ | 1, _ | 2, _ | 3, _ | 4, _ | 5, _ | 6, _ | 7, _ => decide
  · have e1 : dxL.getD k 0 = 0 := by unfold dxL; simp [List.getD]; rw [List.getElem?_eq_none (by simp; omega)]; rfl
    have e2 : dyL.getD k 0 = 0 := by unfold dyL; simp [List.getD]; rw [List.getElem?_eq_none (by simp; omega)]; rfl
    rw [e1, e2]; omega
set_option maxRecDepth 100000 in
theorem idx_any (k : Nat) (hk : k < 8) : ∀ w, (Instr.index 181 (.agg #[.int .i64 0, .int .i64 (-1), .int .i64 1, .int .i64 0, .int .i64 0, .int .i64 1, .int .i64 (-1), .int .i64 0, .int .i64 1, .int .i64 (-1), .int .i64 1, .int .i64 1, .int .i64 (-1), .int .i64 1, .int .i64 (-1), .int .i64 (-1)]) (.int .i64 k)).run Tryd.prog w = .ok (.agg #[.int .i64 (dxL.getD k 0), .int .i64 (dyL.getD k 0)]) w := by
  match k, hk with
  | 0, _ => exact fun w => by kernel_rfl
  | 1, _ => exact fun w => by kernel_rfl
  | 2, _ => exact fun w => by kernel_rfl
  | 3, _ => exact fun w => by kernel_rfl
  | 4, _ => exact fun w => by kernel_rfl
  | 5, _ => exact fun w => by kernel_rfl
  | 6, _ => exact fun w => by kernel_rfl
  | 7, _ => exact fun w => by kernel_rfl

set_option maxRecDepth 100000 in
set_option maxHeartbeats 1600000 in
theorem tnear_any (W H t : Int) (w : World) (hL : LT w) (w1 : 1 ≤ W) (w2 : W ≤ 128) (h1 : 1 ≤ H) (h2 : H ≤ 128) (t0 : 0 ≤ t) (t1 : t ≤ 16384) :
    Calls Tryd.prog 110 #[.int .i64 W, .int .i64 H, .int .i64 t] w fun e w' => e = .returned (.agg #[.int .i64 (nb W H t 0), .int .i64 (nb W H t 1), .int .i64 (nb W H t 2), .int .i64 (nb W H t 3), .int .i64 (nb W H t 4), .int .i64 (nb W H t 5), .int .i64 (nb W H t 6), .int .i64 (nb W H t 7)]) ∧ Below w.heap.size w w' := by
  have q1 : 0 ≤ t % W := Int.emod_nonneg _ (by omega)
  have q2 : t % W < W := Int.emod_lt_of_pos _ (by omega)
  have q3 : 0 ≤ t / W := Int.ediv_nonneg t0 (by omega)
  have q4 : t / W ≤ t := Int.ediv_le_self _ t0
  have w0 : ¬ W = 0 := by omega
  have hLL : LT ((w.alloc (.cells #[.int .i64 0, .int .i64 0, .int .i64 0, .int .i64 0, .int .i64 0, .int .i64 0, .int .i64 0, .int .i64 0] 88)).alloc (.cells #[.int .i64 0, .int .i64 0, .int .i64 0, .int .i64 0, .int .i64 0, .int .i64 0, .int .i64 0, .int .i64 0] 88)) := hL.below (((Below.refl _ _).alloc (Nat.le_refl _) _).alloc (by simp) _) (Nat.le_refl _)
  have o0 : ((w.alloc (.cells #[.int .i64 0, .int .i64 0, .int .i64 0, .int .i64 0, .int .i64 0, .int .i64 0, .int .i64 0, .int .i64 0] 88)).alloc (.cells #[.int .i64 0, .int .i64 0, .int .i64 0, .int .i64 0, .int .i64 0, .int .i64 0, .int .i64 0, .int .i64 0] 88)).cell? ⟨2, 0, none⟩ = some (.int .i64 0) := hLL.offs 0 0 (by omega) (by omega)
  have o1 : ((w.alloc (.cells #[.int .i64 0, .int .i64 0, .int .i64 0, .int .i64 0, .int .i64 0, .int .i64 0, .int .i64 0, .int .i64 0] 88)).alloc (.cells #[.int .i64 0, .int .i64 0, .int .i64 0, .int .i64 0, .int .i64 0, .int .i64 0, .int .i64 0, .int .i64 0] 88)).cell? ⟨2, 1, none⟩ = some (.int .i64 (-1)) := hLL.offs 0 1 (by omega) (by omega)
  have o2 : ((w.alloc (.cells #[.int .i64 0, .int .i64 0, .int .i64 0, .int .i64 0, .int .i64 0, .int .i64 0, .int .i64 0, .int .i64 0] 88)).alloc (.cells #[.int .i64 0, .int .i64 0, .int .i64 0, .int .i64 0, .int .i64 0, .int .i64 0, .int .i64 0, .int .i64 0] 88)).cell? ⟨2, 2, none⟩ = some (.int .i64 1) := hLL.offs 1 0 (by omega) (by omega)
  have o3 : ((w.alloc (.cells #[.int .i64 0, .int .i64 0, .int .i64 0, .int .i64 0, .int .i64 0, .int .i64 0, .int .i64 0, .int .i64 0] 88)).alloc (.cells #[.int .i64 0, .int .i64 0, .int .i64 0, .int .i64 0, .int .i64 0, .int .i64 0, .int .i64 0, .int .i64 0] 88)).cell? ⟨2, 3, none⟩ = some (.int .i64 0) := hLL.offs 1 1 (by omega) (by omega)
  have o4 : ((w.alloc (.cells #[.int .i64 0, .int .i64 0, .int .i64 0, .int .i64 0, .int .i64 0, .int .i64 0, .int .i64 0, .int .i64 0] 88)).alloc (.cells #[.int .i64 0, .int .i64 0, .int .i64 0, .int .i64 0, .int .i64 0, .int .i64 0, .int .i64 0, .int .i64 0] 88)).cell? ⟨2, 4, none⟩ = some (.int .i64 0) := hLL.offs 2 0 (by omega) (by omega)
  have o5 : ((w.alloc (.cells #[.int .i64 0, .int .i64 0, .int .i64 0, .int .i64 0, .int .i64 0, .int .i64 0, .int .i64 0, .int .i64 0] 88)).alloc (.cells #[.int .i64 0, .int .i64 0, .int .i64 0, .int .i64 0, .int .i64 0, .int .i64 0, .int .i64 0, .int .i64 0] 88)).cell? ⟨2, 5, none⟩ = some (.int .i64 1) := hLL.offs 2 1 (by omega) (by omega)
  have o6 : ((w.alloc (.cells #[.int .i64 0, .int .i64 0, .int .i64 0, .int .i64 0, .int .i64 0, .int .i64 0, .int .i64 0, .int .i64 0] 88)).alloc (.cells #[.int .i64 0, .int .i64 0, .int .i64 0, .int .i64 0, .int .i64 0, .int .i64 0, .int .i64 0, .int .i64 0] 88)).cell? ⟨2, 6, none⟩ = some (.int .i64 (-1)) := hLL.offs 3 0 (by omega) (by omega)
  have o7 : ((w.alloc (.cells #[.int .i64 0, .int .i64 0, .int .i64 0, .int .i64 0, .int .i64 0, .int .i64 0, .int .i64 0, .int .i64 0] 88)).alloc (.cells #[.int .i64 0, .int .i64 0, .int .i64 0, .int .i64 0, .int .i64 0, .int .i64 0, .int .i64 0, .int .i64 0] 88)).cell? ⟨2, 7, none⟩ = some (.int .i64 0) := hLL.offs 3 1 (by omega) (by omega)
  have o8 : ((w.alloc (.cells #[.int .i64 0, .int .i64 0, .int .i64 0, .int .i64 0, .int .i64 0, .int .i64 0, .int .i64 0, .int .i64 0] 88)).alloc (.cells #[.int .i64 0, .int .i64 0, .int .i64 0, .int .i64 0, .int .i64 0, .int .i64 0, .int .i64 0, .int .i64 0] 88)).cell? ⟨2, 8, none⟩ = some (.int .i64 1) := hLL.offs 4 0 (by omega) (by omega)
  have o9 : ((w.alloc (.cells #[.int .i64 0, .int .i64 0, .int .i64 0, .int .i64 0, .int .i64 0, .int .i64 0, .int .i64 0, .int .i64 0] 88)).alloc (.cells #[.int .i64 0, .int .i64 0, .int .i64 0, .int .i64 0, .int .i64 0, .int .i64 0, .int .i64 0, .int .i64 0] 88)).cell? ⟨2, 9, none⟩ = some (.int .i64 (-1)) := hLL.offs 4 1 (by omega) (by omega)
  have o10 : ((w.alloc (.cells #[.int .i64 0, .int .i64 0, .int .i64 0, .int .i64 0, .int .i64 0, .int .i64 0, .int .i64 0, .int .i64 0] 88)).alloc (.cells #[.int .i64 0, .int .i64 0, .int .i64 0, .int .i64 0, .int .i64 0, .int .i64 0, .int .i64 0, .int .i64 0] 88)).cell? ⟨2, 10, none⟩ = some (.int .i64 1) := hLL.offs 5 0 (by omega) (by omega)
  have o11 : ((w.alloc (.cells #[.int .i64 0, .int .i64 0, .int .i64 0, .int .i64 0, .int .i64 0, .int .i64 0, .int .i64 0, .int .i64 0] 88)).alloc (.cells #[.int .i64 0, .int .i64 0, .int .i64 0, .int .i64 0, .int .i64 0, .int .i64 0, .int .i64 0, .int .i64 0] 88)).cell? ⟨2, 11, none⟩ = some (.int .i64 1) := hLL.offs 5 1 (by omega) (by omega)
  have o12 : ((w.alloc (.cells #[.int .i64 0, .int .i64 0, .int .i64 0, .int .i64 0, .int .i64 0, .int .i64 0, .int .i64 0, .int .i64 0] 88)).alloc (.cells #[.int .i64 0, .int .i64 0, .int .i64 0, .int .i64 0, .int .i64 0, .int .i64 0, .int .i64 0, .int .i64 0] 88)).cell? ⟨2, 12, none⟩ = some (.int .i64 (-1)) := hLL.offs 6 0 (by omega) (by omega)
  have o13 : ((w.alloc (.cells #[.int .i64 0, .int .i64 0, .int .i64 0, .int .i64 0, .int .i64 0, .int .i64 0, .int .i64 0, .int .i64 0] 88)).alloc (.cells #[.int .i64 0, .int .i64 0, .int .i64 0, .int .i64 0, .int .i64 0, .int .i64 0, .int .i64 0, .int .i64 0] 88)).cell? ⟨2, 13, none⟩ = some (.int .i64 1) := hLL.offs 6 1 (by omega) (by omega)
  have o14 : ((w.alloc (.cells #[.int .i64 0, .int .i64 0, .int .i64 0, .int .i64 0, .int .i64 0, .int .i64 0, .int .i64 0, .int .i64 0] 88)).alloc (.cells #[.int .i64 0, .int .i64 0, .int .i64 0, .int .i64 0, .int .i64 0, .int .i64 0, .int .i64 0, .int .i64 0] 88)).cell? ⟨2, 14, none⟩ = some (.int .i64 (-1)) := hLL.offs 7 0 (by omega) (by omega)
  have o15 : ((w.alloc (.cells #[.int .i64 0, .int .i64 0, .int .i64 0, .int .i64 0, .int .i64 0, .int .i64 0, .int .i64 0, .int .i64 0] 88)).alloc (.cells #[.int .i64 0, .int .i64 0, .int .i64 0, .int .i64 0, .int .i64 0, .int .i64 0, .int .i64 0, .int .i64 0] 88)).cell? ⟨2, 15, none⟩ = some (.int .i64 (-1)) := hLL.offs 7 1 (by omega) (by omega)
  clear hLL hL
  go_enter Tryd.func110, Tryd.ntmps110
  have K0 := Hk.mk (N8.start w)
  go_wp2
  clear o0 o1 o2 o3 o4 o5 o6 o7 o8 o9 o10 o11 o12 o13 o14 o15
  go_loopw [13] (fun i wr => ∃ k : Nat, k ≤ 8 ∧ i = .int .i64 k ∧ Hk (N8 w wr (fun j => if j < k then nb W H t j else 0))) (fun i _ => 8 - (intOf i).toNat)
  case atStart => exact ⟨0, by omega, rfl, ⟨by simpa using K0.out⟩⟩
  case round =>
    clear K0
    obtain ⟨k, hk, rfl, HN⟩ := hrel
    by_cases hlt : k < 8
    · have hix := idx_any k hlt
      obtain ⟨⟨x1, x2⟩, y1, y2⟩ := d_bd k
      have HNB : Hk (nb W H t k = nbS W H t (dxL.getD k 0) (dyL.getD k 0)) := ⟨rfl⟩
      generalize dxL.getD k 0 = dx at *
      generalize dyL.getD k 0 = dy at *
      have j1 : (0 : Int) ≤ (k : Int) := by omega
      have j2 : (k : Int) < 8 := by omega
      have HA := Hk.mk (HN.out.alloc (.cells #[.int .i64 dx, .int .i64 dy] 180))
      have c0 := HA.out.c k hlt
      have f0 := HA.out.f k
      have r1 : t.tmod W = t % W := Int.tmod_eq_emod_of_nonneg t0
      have r2 : t.tdiv W = t / W := Int.tdiv_eq_ediv_of_nonneg t0
      have e1 : IntKind.i64.wrap (t % W + dx) = t % W + dx := wr_in (by omega)
      have e3 : IntKind.i64.wrap (t / W) = t / W := wr_in (by omega)
      have e2 : IntKind.i64.wrap (t / W + dy) = t / W + dy := wr_in (by omega)
      by_cases z0 : t % W + dx < 0
      · have b0 : decide (t % W + dx < 0) = true := by simp; omega
        have HV : Hk (nb W H t k = -1) := ⟨HNB.out.trans (nbS_no (by omega))⟩
        go_wp2
        go_quiet (fail)
        go_wp2
        go_roundw
        case rel => exact ⟨k + 1, by omega, by go_num, ⟨(HA.out.drewN _).set k _ hlt (by rw [if_pos (by omega)]; exact HV.out) (fun j hj hjk => by by_cases hjj : j < k; rw [if_pos hjj, if_pos (by omega)]; rw [if_neg hjj, if_neg (by omega)])⟩⟩
        case measure => simp [intOf]; omega
      by_cases z1 : W ≤ t % W + dx
      · have b0 : decide (t % W + dx < 0) = false := by simp; omega
        have b1 : decide (W ≤ t % W + dx) = true := by simp; omega
        have HV : Hk (nb W H t k = -1) := ⟨HNB.out.trans (nbS_no (by omega))⟩
        go_wp2
        go_quiet (fail)
        go_wp2
        go_roundw
        case rel => exact ⟨k + 1, by omega, by go_num, ⟨(HA.out.drewN _).set k _ hlt (by rw [if_pos (by omega)]; exact HV.out) (fun j hj hjk => by by_cases hjj : j < k; rw [if_pos hjj, if_pos (by omega)]; rw [if_neg hjj, if_neg (by omega)])⟩⟩
        case measure => simp [intOf]; omega
      by_cases z2 : t / W + dy < 0
      · have b0 : decide (t % W + dx < 0) = false := by simp; omega
        have b1 : decide (W ≤ t % W + dx) = false := by simp; omega
        have b2 : decide (t / W + dy < 0) = true := by simp; omega
        have HV : Hk (nb W H t k = -1) := ⟨HNB.out.trans (nbS_no (by omega))⟩
        go_wp2
        go_quiet (fail)
        go_wp2
        go_roundw
        case rel => exact ⟨k + 1, by omega, by go_num, ⟨(HA.out.drewN _).set k _ hlt (by rw [if_pos (by omega)]; exact HV.out) (fun j hj hjk => by by_cases hjj : j < k; rw [if_pos hjj, if_pos (by omega)]; rw [if_neg hjj, if_neg (by omega)])⟩⟩
        case measure => simp [intOf]; omega
      by_cases z3 : H ≤ t / W + dy
      · have b0 : decide (t % W + dx < 0) = false := by simp; omega
        have b1 : decide (W ≤ t % W + dx) = false := by simp; omega
        have b2 : decide (t / W + dy < 0) = false := by simp; omega
        have b3 : decide (H ≤ t / W + dy) = true := by simp; omega
        have HV : Hk (nb W H t k = -1) := ⟨HNB.out.trans (nbS_no (by omega))⟩
        go_wp2
        go_quiet (fail)
        go_wp2
        go_roundw
        case rel => exact ⟨k + 1, by omega, by go_num, ⟨(HA.out.drewN _).set k _ hlt (by rw [if_pos (by omega)]; exact HV.out) (fun j hj hjk => by by_cases hjj : j < k; rw [if_pos hjj, if_pos (by omega)]; rw [if_neg hjj, if_neg (by omega)])⟩⟩
        case measure => simp [intOf]; omega
      · have b0 : decide (t % W + dx < 0) = false := by simp; omega
        have b1 : decide (W ≤ t % W + dx) = false := by simp; omega
        have b2 : decide (t / W + dy < 0) = false := by simp; omega
        have b3 : decide (H ≤ t / W + dy) = false := by simp; omega
        have m3 := Int.mul_le_mul w2 (show t / W + dy ≤ 128 by omega) (by omega) (by omega)
        have m4 : 0 ≤ W * (t / W + dy) := Int.mul_nonneg (by omega) (by omega)
        have e4 : IntKind.i64.wrap (W * (t / W + dy)) = W * (t / W + dy) := wr_in (by omega)
        have e5 : IntKind.i64.wrap (t % W + dx + W * (t / W + dy)) = t % W + dx + W * (t / W + dy) := wr_in (by omega)
        have HV : Hk (nb W H t k = t % W + dx + W * (t / W + dy)) := ⟨HNB.out.trans (nbS_yes (by omega) (by omega) (by omega) (by omega))⟩
        go_wp2
        go_quiet (fail)
        go_wp2
        go_roundw
        case rel => exact ⟨k + 1, by omega, by go_num, ⟨(HA.out.drewN _).set k _ hlt (by rw [if_pos (by omega)]; exact HV.out) (fun j hj hjk => by by_cases hjj : j < k; rw [if_pos hjj, if_pos (by omega)]; rw [if_neg hjj, if_neg (by omega)])⟩⟩
        case measure => simp [intOf]; omega
    · have hk8 : k = 8 := by omega
      subst hk8
      have c0 : wr.cell? ⟨w.heap.size + 1, 0, none⟩ = some (.int .i64 (nb W H t 0)) := (HN.out.c 0 (by omega)).trans (by rw [if_pos (by omega)])
      have d0 := HN.out.d 0 (by omega)
      have g0 := HN.out.g 0
      have c1 : wr.cell? ⟨w.heap.size + 1, 1, none⟩ = some (.int .i64 (nb W H t 1)) := (HN.out.c 1 (by omega)).trans (by rw [if_pos (by omega)])
      have d1 := HN.out.d 1 (by omega)
      have g1 := HN.out.g 1
      have c2 : wr.cell? ⟨w.heap.size + 1, 2, none⟩ = some (.int .i64 (nb W H t 2)) := (HN.out.c 2 (by omega)).trans (by rw [if_pos (by omega)])
      have d2 := HN.out.d 2 (by omega)
      have g2 := HN.out.g 2
      have c3 : wr.cell? ⟨w.heap.size + 1, 3, none⟩ = some (.int .i64 (nb W H t 3)) := (HN.out.c 3 (by omega)).trans (by rw [if_pos (by omega)])
      have d3 := HN.out.d 3 (by omega)
      have g3 := HN.out.g 3
      have c4 : wr.cell? ⟨w.heap.size + 1, 4, none⟩ = some (.int .i64 (nb W H t 4)) := (HN.out.c 4 (by omega)).trans (by rw [if_pos (by omega)])
      have d4 := HN.out.d 4 (by omega)
      have g4 := HN.out.g 4
      have c5 : wr.cell? ⟨w.heap.size + 1, 5, none⟩ = some (.int .i64 (nb W H t 5)) := (HN.out.c 5 (by omega)).trans (by rw [if_pos (by omega)])
      have d5 := HN.out.d 5 (by omega)
      have g5 := HN.out.g 5
      have c6 : wr.cell? ⟨w.heap.size + 1, 6, none⟩ = some (.int .i64 (nb W H t 6)) := (HN.out.c 6 (by omega)).trans (by rw [if_pos (by omega)])
      have d6 := HN.out.d 6 (by omega)
      have g6 := HN.out.g 6
      have c7 : wr.cell? ⟨w.heap.size + 1, 7, none⟩ = some (.int .i64 (nb W H t 7)) := (HN.out.c 7 (by omega)).trans (by rw [if_pos (by omega)])
      have d7 := HN.out.d 7 (by omega)
      have g7 := HN.out.g 7
      have HBB := Hk.mk HN.out.hB
      clear HN
      go_wp2
      refine bodyPost_ret (v := .agg #[.int .i64 (nb W H t 0), .int .i64 (nb W H t 1), .int .i64 (nb W H t 2), .int .i64 (nb W H t 3), .int .i64 (nb W H t 4), .int .i64 (nb W H t 5), .int .i64 (nb W H t 6), .int .i64 (nb W H t 7)]) (by simp [results, Tryd.results110, go_sem, d0, d1, d2, d3, d4, d5, d6, d7]) rfl ⟨rfl, ?_⟩
      exact ((((((((HBB.out).setCell (by simp) _).setCell (by simp) _).setCell (by simp) _).setCell (by simp) _).setCell (by simp) _).setCell (by simp) _).setCell (by simp) _).setCell (by simp) _
end Go.Proofs.YthabjihpjdlmoaaDoor
/- Layer 6: the list of neighbours; lists compared. -/
namespace Go.Proofs.YthabjihpjdlmoaaDoor
open Go.RowKit
set_option linter.unusedVariables false
/-- What the neighbours' list is: new memory. -/
def NearR (w : World) (xs : List Int) (e : Ending) (w' : World) : Prop := ∃ g, e = .returned (.tuple #[.slice (some ⟨g, 0, none⟩) 8 8, .int .i64 0]) ∧ w.heap.size ≤ g ∧ g < w'.heap.size ∧ xs.length = 8 ∧ (∀ j, j < 8 → w'.cell? ⟨g, j, none⟩ = some (.int .i64 (xs.getD j 0))) ∧ (∀ j, w'.frozen? ⟨g, j, none⟩ = false) ∧ Below w.heap.size w w'
theorem nb_lit (w2 : World) (W H t : Int) (T : TypeId) : ∀ j, j < 8 → (w2.alloc (.cells #[.int .i64 (nb W H t 0), .int .i64 (nb W H t 1), .int .i64 (nb W H t 2), .int .i64 (nb W H t 3), .int .i64 (nb W H t 4), .int .i64 (nb W H t 5), .int .i64 (nb W H t 6), .int .i64 (nb W H t 7)] T)).cell? ⟨w2.heap.size, j, none⟩ = some (.int .i64 ((nbL W H t).getD j 0)) := fun j hj => by
  match j, hj with
  | 0, _ | 1, _ | 2, _ | 3, _ | 4, _ | 5, _ | 6, _ | 7, _ => (rw [World.cell?_alloc_mark]; rfl)
theorem eqn_yes (a a' : Option Addr) (n c c' B B' : Nat) (xs : List Int) (w : World) (h : Nq w B a n xs) (h' : Nq w B' a' n xs) (hn : n ≤ 1099511627776) :
    Calls Tryd.prog 29 #[.slice a n c, .slice a' n c'] w fun e w' => e = .returned (.bool true) ∧ ∃ m, w' = w.drewN m := by
  have H := Hk.mk h
  have H' := Hk.mk h'
  clear h h'
  go_enter Tryd.func29, Tryd.ntmps29
  go_wp2
  go_loopw [5] (fun i wr => ∃ k : Nat, k ≤ n ∧ i = .int .i64 k ∧ Hk (∃ m, wr = w.drewN m)) (fun i _ => n - (intOf i).toNat)
  case atStart => exact ⟨0, Nat.zero_le _, rfl, ⟨0, rfl⟩⟩
  case round =>
    obtain ⟨k, hk, rfl, HB⟩ := hrel
    by_cases hlt : k < n
    · obtain ⟨b, off, rfl, hbl, hc⟩ := H.out.rd (by omega)
      obtain ⟨b', off', rfl, hbl', hc'⟩ := H'.out.rd (by omega)
      have hcx : wr.cell? ⟨b, off + k, none⟩ = some (.int .i64 (xs.getD k 0)) := by obtain ⟨m, rfl⟩ := HB.out; exact hc k hlt
      have hcy : wr.cell? ⟨b', off' + k, none⟩ = some (.int .i64 (xs.getD k 0)) := by obtain ⟨m, rfl⟩ := HB.out; exact hc' k hlt
      clear hc hc'
      generalize xs.getD k 0 = x at *
      have i1 : (0 : Int) ≤ (k : Int) := by omega
      have i2 : (k : Int) < (n : Int) := by omega
      go_wp2
      go_quiet (fail)
      go_wp2
      go_roundw
      case rel => exact ⟨k + 1, by omega, by go_num, ⟨by obtain ⟨m, rfl⟩ := HB.out; exact ⟨_, by rw [World.drewN_drewN]⟩⟩⟩
      case measure => simp [intOf]; omega
    · have hkn : k = n := by omega
      subst hkn
      go_wp2
      go_ret
      exact ⟨rfl, HB.out⟩
end Go.Proofs.YthabjihpjdlmoaaDoor
/- Layer 6: the list of neighbours, of the reference. -/
namespace Go.Proofs.YthabjihpjdlmoaaDoor
open Go.RowKit
set_option linter.unusedVariables false
theorem ow_weak {w : World} {base base' n : Nat} {v : Value} {xs : List Value} {E : TypeId} {sz : Nat} (h : w.ownsRow base E sz v n xs) (hb : base' ≤ base) : w.ownsRow base' E sz v n xs := by
  refine ⟨h.1, ?_⟩
  rcases h.2 with e | ⟨g, cap, cur, e1, hg, e2⟩
  · exact .inl e
  · exact .inr ⟨g, cap, cur, e1, by omega, e2⟩
theorem info_int : (Tryd.prog.info? 3).map (fun i => (i.zero, i.size, i.bytes)) = some (some (.int .i64 0), 1, 8) := by kernel_rfl
theorem rn_step {W H t v : Int} {k : Nat} {w1 : World} {B : Nat} {v' : Value} (e : nb W H t k = v) (hk : k < 8) (h : w1.ownsRow B 3 1 v' (k + 1) (((nbL W H t).map (Value.int .i64)).take k ++ [.int .i64 v])) : w1.ownsRow B 3 1 v' (k + 1) (((nbL W H t).take (k + 1)).map (Value.int .i64)) := by
  have e1 : (nbL W H t).take (k + 1) = (nbL W H t).take k ++ [v] := by
    rw [List.take_succ_eq_append_getElem (by unfold nbL; simpa using hk)]
    congr 1
    unfold nbL
    simp [← e]
  rw [e1, List.map_append, List.map_take]
  exact h
theorem rn_lits (w : World) (W H : Int) (s : Value) : (∀ k, k < 8 → ((((w.alloc (.cells #[.int .i64 W, .int .i64 H, s] 24)).alloc (.cells #[.int .i64 0, .int .i64 1, .int .i64 0, .int .i64 (-1), .int .i64 1, .int .i64 1, .int .i64 (-1), .int .i64 (-1)] 88)).alloc (.cells #[.int .i64 (-1), .int .i64 0, .int .i64 1, .int .i64 0, .int .i64 (-1), .int .i64 1, .int .i64 1, .int .i64 (-1)] 88))).cell? ⟨w.heap.size + 1, k, none⟩ = some (.int .i64 (dxL.getD k 0))) ∧ (∀ k, k < 8 → ((((w.alloc (.cells #[.int .i64 W, .int .i64 H, s] 24)).alloc (.cells #[.int .i64 0, .int .i64 1, .int .i64 0, .int .i64 (-1), .int .i64 1, .int .i64 1, .int .i64 (-1), .int .i64 (-1)] 88)).alloc (.cells #[.int .i64 (-1), .int .i64 0, .int .i64 1, .int .i64 0, .int .i64 (-1), .int .i64 1, .int .i64 1, .int .i64 (-1)] 88))).cell? ⟨w.heap.size + 1 + 1, k, none⟩ = some (.int .i64 (dyL.getD k 0))) ∧ ((((w.alloc (.cells #[.int .i64 W, .int .i64 H, s] 24)).alloc (.cells #[.int .i64 0, .int .i64 1, .int .i64 0, .int .i64 (-1), .int .i64 1, .int .i64 1, .int .i64 (-1), .int .i64 (-1)] 88)).alloc (.cells #[.int .i64 (-1), .int .i64 0, .int .i64 1, .int .i64 0, .int .i64 (-1), .int .i64 1, .int .i64 1, .int .i64 (-1)] 88))).cell? ⟨w.heap.size, 0, none⟩ = some (.int .i64 W) ∧ ((((w.alloc (.cells #[.int .i64 W, .int .i64 H, s] 24)).alloc (.cells #[.int .i64 0, .int .i64 1, .int .i64 0, .int .i64 (-1), .int .i64 1, .int .i64 1, .int .i64 (-1), .int .i64 (-1)] 88)).alloc (.cells #[.int .i64 (-1), .int .i64 0, .int .i64 1, .int .i64 0, .int .i64 (-1), .int .i64 1, .int .i64 1, .int .i64 (-1)] 88))).cell? ⟨w.heap.size, 1, none⟩ = some (.int .i64 H) := by
  refine ⟨fun k hk => ?_, fun k hk => ?_, by go_simp, by go_simp⟩
  · match k, hk with
    | 0, _ | 1, _ | 2, _ | 3, _ | 4, _ | 5, _ | 6, _ | 7, _ => go_simp <;> rfl
  · match k, hk with
    | 0, _ | 1, _ | 2, _ | 3, _ | 4, _ | 5, _ | 6, _ | 7, _ => go_simp <;> rfl
set_option maxRecDepth 100000 in
set_option maxHeartbeats 1600000 in
theorem rnear_any (W H t : Int) (s : Value) (w : World) (w1 : 1 ≤ W) (w2 : W ≤ 128) (h1 : 1 ≤ H) (h2 : H ≤ 128) (t0 : 0 ≤ t) (t1 : t ≤ 16384) :
    Calls Tryd.prog 34 #[.agg #[.int .i64 W, .int .i64 H, s], .int .i64 t] w fun e w' => ∃ v, e = .returned v ∧ w'.ownsRow w.heap.size 3 1 v 8 ((nbL W H t).map (Value.int .i64)) ∧ Below w.heap.size w w' := by
  obtain ⟨i0, hi, hz0, hz1, hz2⟩ := info_parts info_int
  have q1 : 0 ≤ t % W := Int.emod_nonneg _ (by omega)
  have q2 : t % W < W := Int.emod_lt_of_pos _ (by omega)
  have q3 : 0 ≤ t / W := Int.ediv_nonneg t0 (by omega)
  have q4 : t / W ≤ t := Int.ediv_le_self _ t0
  have w0 : ¬ W = 0 := by omega
  have HL := Hk.mk (rn_lits w W H s)
  go_enter Tryd.func34, Tryd.ntmps34
  go_wp2
  go_loopw [7, 8] (fun l i wr => ∃ k : Nat, k ≤ 8 ∧ i = .int .i64 k ∧ Hk (wr.ownsRow (w.heap.size + 3) 3 1 l k (((nbL W H t).take k).map (Value.int .i64))) ∧ Hk (Below (w.heap.size + 3) ((((w.alloc (.cells #[.int .i64 W, .int .i64 H, s] 24)).alloc (.cells #[.int .i64 0, .int .i64 1, .int .i64 0, .int .i64 (-1), .int .i64 1, .int .i64 1, .int .i64 (-1), .int .i64 (-1)] 88)).alloc (.cells #[.int .i64 (-1), .int .i64 0, .int .i64 1, .int .i64 0, .int .i64 (-1), .int .i64 1, .int .i64 1, .int .i64 (-1)] 88))) wr)) (fun _ i _ => 8 - (intOf i).toNat)
  case atStart => exact ⟨0, by omega, rfl, ⟨World.ownsRow_nil _ _ _ _⟩, ⟨Below.refl _ _⟩⟩
  case round =>
    obtain ⟨k, hk, rfl, HO, HB⟩ := hrel
    have hsz : w.heap.size + 3 ≤ wr.heap.size := by have := HB.out.size; simp at this; omega
    by_cases hlt : k < 8
    · have HNB : Hk (nb W H t k = nbS W H t (dxL.getD k 0) (dyL.getD k 0)) := ⟨rfl⟩
      obtain ⟨⟨x1, x2⟩, y1, y2⟩ := d_bd k
      have c0 := (HB.out.cell (p := ⟨w.heap.size + 1, k, none⟩) (by show w.heap.size + 1 < w.heap.size + 3; omega)).trans (HL.out.1 k hlt)
      have c1 := (HB.out.cell (p := ⟨w.heap.size + 1 + 1, k, none⟩) (by show w.heap.size + 1 + 1 < w.heap.size + 3; omega)).trans (HL.out.2.1 k hlt)
      have c2 := (HB.out.cell (p := ⟨w.heap.size, 0, none⟩) (by show w.heap.size < w.heap.size + 3; omega)).trans HL.out.2.2.1
      have c3 := (HB.out.cell (p := ⟨w.heap.size, 1, none⟩) (by show w.heap.size < w.heap.size + 3; omega)).trans HL.out.2.2.2
      generalize dxL.getD k 0 = dx at *
      generalize dyL.getD k 0 = dy at *
      have j1 : (0 : Int) ≤ (k : Int) := by omega
      have j2 : (k : Int) < 8 := by omega
      have r1 : t.tmod W = t % W := Int.tmod_eq_emod_of_nonneg t0
      have r2 : t.tdiv W = t / W := Int.tdiv_eq_ediv_of_nonneg t0
      have e1 : IntKind.i64.wrap (t % W + dx) = t % W + dx := wr_in (by omega)
      have e3 : IntKind.i64.wrap (t / W) = t / W := wr_in (by omega)
      have e2 : IntKind.i64.wrap (t / W + dy) = t / W + dy := wr_in (by omega)
      by_cases z0 : t % W + dx < 0
      · have b0 : decide (t % W + dx < 0) = true := by simp; omega
        have HV : Hk (nb W H t k = (-1)) := ⟨HNB.out.trans (nbS_no (by omega))⟩
        go_wp2
        go_quiet (fail)
        go_wp2_with (at_builtin; refine wpList_append_own _ rfl _ _ 26 rfl (w.heap.size + 3) 3 i0 (.int .i64 0) 1 8 Tryd.underlying26 hi hz0 hz1 hz2 rfl (by decide) _ _ _ rfl (HO.out.alloc _) ⟨wr.heap.size, 0, none⟩ 1 1 [.int .i64 (-1)] rfl rfl ?c1 ?c2 ?c3 ?c4 ?c5 ?_)
        case c1 => exact one_new (World.drewN _ _) _ _
        case c2 => intro u hu; simp at hu; subst hu; rfl
        case c3 => unfold maxLen; omega
        case c4 => omega
        case c5 => simp; omega
        · intro v' w1 hown' hgrow _
          have HO2 := Hk.mk (rn_step HV.out hlt hown')
          have HB2 := Hk.mk ((below_drewN (HB.out.alloc hsz (.cells #[.int .i64 (-1)] 3)) _).grown hgrow (by simp; omega) (fun g hg => by have := (HO.out.lt g hg).1; omega))
          clear hown' hgrow HO HB
          go_wp2
          go_roundw
          case rel => exact ⟨k + 1, by omega, by go_num, HO2, HB2⟩
          case measure => simp [intOf]; omega
      by_cases z1 : W ≤ t % W + dx
      · have b0 : decide (t % W + dx < 0) = false := by simp; omega
        have b1 : decide (W ≤ t % W + dx) = true := by simp; omega
        have HV : Hk (nb W H t k = (-1)) := ⟨HNB.out.trans (nbS_no (by omega))⟩
        go_wp2
        go_quiet (fail)
        go_wp2_with (at_builtin; refine wpList_append_own _ rfl _ _ 26 rfl (w.heap.size + 3) 3 i0 (.int .i64 0) 1 8 Tryd.underlying26 hi hz0 hz1 hz2 rfl (by decide) _ _ _ rfl (HO.out.alloc _) ⟨wr.heap.size, 0, none⟩ 1 1 [.int .i64 (-1)] rfl rfl ?c1 ?c2 ?c3 ?c4 ?c5 ?_)
        case c1 => exact one_new (World.drewN _ _) _ _
        case c2 => intro u hu; simp at hu; subst hu; rfl
        case c3 => unfold maxLen; omega
        case c4 => omega
        case c5 => simp; omega
        · intro v' w1 hown' hgrow _
          have HO2 := Hk.mk (rn_step HV.out hlt hown')
          have HB2 := Hk.mk ((below_drewN (HB.out.alloc hsz (.cells #[.int .i64 (-1)] 3)) _).grown hgrow (by simp; omega) (fun g hg => by have := (HO.out.lt g hg).1; omega))
          clear hown' hgrow HO HB
          go_wp2
          go_roundw
          case rel => exact ⟨k + 1, by omega, by go_num, HO2, HB2⟩
          case measure => simp [intOf]; omega
      by_cases z2 : t / W + dy < 0
      · have b0 : decide (t % W + dx < 0) = false := by simp; omega
        have b1 : decide (W ≤ t % W + dx) = false := by simp; omega
        have b2 : decide (t / W + dy < 0) = true := by simp; omega
        have HV : Hk (nb W H t k = (-1)) := ⟨HNB.out.trans (nbS_no (by omega))⟩
        go_wp2
        go_quiet (fail)
        go_wp2_with (at_builtin; refine wpList_append_own _ rfl _ _ 26 rfl (w.heap.size + 3) 3 i0 (.int .i64 0) 1 8 Tryd.underlying26 hi hz0 hz1 hz2 rfl (by decide) _ _ _ rfl (HO.out.alloc _) ⟨wr.heap.size, 0, none⟩ 1 1 [.int .i64 (-1)] rfl rfl ?c1 ?c2 ?c3 ?c4 ?c5 ?_)
        case c1 => exact one_new (World.drewN _ _) _ _
        case c2 => intro u hu; simp at hu; subst hu; rfl
        case c3 => unfold maxLen; omega
        case c4 => omega
        case c5 => simp; omega
        · intro v' w1 hown' hgrow _
          have HO2 := Hk.mk (rn_step HV.out hlt hown')
          have HB2 := Hk.mk ((below_drewN (HB.out.alloc hsz (.cells #[.int .i64 (-1)] 3)) _).grown hgrow (by simp; omega) (fun g hg => by have := (HO.out.lt g hg).1; omega))
          clear hown' hgrow HO HB
          go_wp2
          go_roundw
          case rel => exact ⟨k + 1, by omega, by go_num, HO2, HB2⟩
          case measure => simp [intOf]; omega
      by_cases z3 : H ≤ t / W + dy
      · have b0 : decide (t % W + dx < 0) = false := by simp; omega
        have b1 : decide (W ≤ t % W + dx) = false := by simp; omega
        have b2 : decide (t / W + dy < 0) = false := by simp; omega
        have b3 : decide (H ≤ t / W + dy) = true := by simp; omega
        have HV : Hk (nb W H t k = (-1)) := ⟨HNB.out.trans (nbS_no (by omega))⟩
        go_wp2
        go_quiet (fail)
        go_wp2_with (at_builtin; refine wpList_append_own _ rfl _ _ 26 rfl (w.heap.size + 3) 3 i0 (.int .i64 0) 1 8 Tryd.underlying26 hi hz0 hz1 hz2 rfl (by decide) _ _ _ rfl (HO.out.alloc _) ⟨wr.heap.size, 0, none⟩ 1 1 [.int .i64 (-1)] rfl rfl ?c1 ?c2 ?c3 ?c4 ?c5 ?_)
        case c1 => exact one_new (World.drewN _ _) _ _
        case c2 => intro u hu; simp at hu; subst hu; rfl
        case c3 => unfold maxLen; omega
        case c4 => omega
        case c5 => simp; omega
        · intro v' w1 hown' hgrow _
          have HO2 := Hk.mk (rn_step HV.out hlt hown')
          have HB2 := Hk.mk ((below_drewN (HB.out.alloc hsz (.cells #[.int .i64 (-1)] 3)) _).grown hgrow (by simp; omega) (fun g hg => by have := (HO.out.lt g hg).1; omega))
          clear hown' hgrow HO HB
          go_wp2
          go_roundw
          case rel => exact ⟨k + 1, by omega, by go_num, HO2, HB2⟩
          case measure => simp [intOf]; omega
      · have b0 : decide (t % W + dx < 0) = false := by simp; omega
        have b1 : decide (W ≤ t % W + dx) = false := by simp; omega
        have b2 : decide (t / W + dy < 0) = false := by simp; omega
        have b3 : decide (H ≤ t / W + dy) = false := by simp; omega
        have m3 := Int.mul_le_mul w2 (show t / W + dy ≤ 128 by omega) (by omega) (by omega)
        have m4 : 0 ≤ W * (t / W + dy) := Int.mul_nonneg (by omega) (by omega)
        have e4 : IntKind.i64.wrap (W * (t / W + dy)) = W * (t / W + dy) := wr_in (by omega)
        have e5 : IntKind.i64.wrap (t % W + dx + W * (t / W + dy)) = t % W + dx + W * (t / W + dy) := wr_in (by omega)
        have HV : Hk (nb W H t k = (t % W + dx + W * (t / W + dy))) := ⟨HNB.out.trans (nbS_yes (by omega) (by omega) (by omega) (by omega))⟩
        go_wp2
        go_quiet (fail)
        go_wp2_with (at_builtin; refine wpList_append_own _ rfl _ _ 26 rfl (w.heap.size + 3) 3 i0 (.int .i64 0) 1 8 Tryd.underlying26 hi hz0 hz1 hz2 rfl (by decide) _ _ _ rfl (HO.out.alloc _) ⟨wr.heap.size, 0, none⟩ 1 1 [.int .i64 (t % W + dx + W * (t / W + dy))] rfl rfl ?c1 ?c2 ?c3 ?c4 ?c5 ?_)
        case c1 => exact one_new (World.drewN _ _) _ _
        case c2 => intro u hu; simp at hu; subst hu; rfl
        case c3 => unfold maxLen; omega
        case c4 => omega
        case c5 => simp; omega
        · intro v' w1 hown' hgrow _
          have HO2 := Hk.mk (rn_step HV.out hlt hown')
          have HB2 := Hk.mk ((below_drewN (HB.out.alloc hsz (.cells #[.int .i64 (t % W + dx + W * (t / W + dy))] 3)) _).grown hgrow (by simp; omega) (fun g hg => by have := (HO.out.lt g hg).1; omega))
          clear hown' hgrow HO HB
          go_wp2
          go_roundw
          case rel => exact ⟨k + 1, by omega, by go_num, HO2, HB2⟩
          case measure => simp [intOf]; omega
    · have hk8 : k = 8 := by omega
      subst hk8
      go_wp2
      go_ret
      refine ⟨_, rfl, ?_, (((((Below.refl _ _).alloc (Nat.le_refl _) _).alloc (by simp) _).alloc (by simp <;> omega) _).trans (HB.out.mono (by simp <;> omega)))⟩
      have hn : ((nbL W H t).take 8) = nbL W H t := List.take_of_length_le (by unfold nbL; simp)
      rw [hn] at HO
      exact ow_weak HO.out (by omega)
end Go.Proofs.YthabjihpjdlmoaaDoor
/- Layer 20: one ring. -/
namespace Go.Proofs.YthabjihpjdlmoaaDoor
open Go.ChangeShapes Go.WideShapes Go.ChangeAt Go.RowKit Go.Deep
set_option linter.unusedVariables false
set_option linter.unusedSimpArgs false
def natsL (l : List Nat) : List Value := l.map fun t => .int .i64 (t : Nat)
theorem befL_len (W : Int) (g n : Nat) (gap d row col : Int) : (befL W g n gap d row col).length ≤ n := by
  unfold befL
  exact Nat.le_trans (List.length_filter_le _ _) (by simp)
theorem own_le20 {w : World} {B B' s n : Nat} {e : TypeId} {v : Value} {xs : List Value} (h : w.ownsRow B e s v n xs) (hb : B' ≤ B) : w.ownsRow B' e s v n xs := by
  refine ⟨h.1, ?_⟩
  rcases h.2 with q | ⟨g, cap, cur, e1, hg, rest⟩
  · exact Or.inl q
  · exact Or.inr ⟨g, cap, cur, e1, Nat.le_trans hb hg, rest⟩
theorem gap_neg {gap d x : Int} (h : gap = 1 ∨ gap = 3 ∨ gap = 5 ∨ gap = 7) (hd : d % gap = 0) : (x - d - x) % gap = 0 := by
  rcases h with q | q | q | q <;> subst q <;> omega
theorem gap_add {gap x y : Int} (h : gap = 1 ∨ gap = 3 ∨ gap = 5 ∨ gap = 7) (hd : (y - x) % gap = 0) : (y + gap - x) % gap = 0 := by
  rcases h with q | q | q | q <;> subst q <;> omega
theorem gap_two {gap d x y : Int} (h : gap = 1 ∨ gap = 3 ∨ gap = 5 ∨ gap = 7) (hd : d % gap = 0) (hy : y = x - d ∨ y = x + d) : (y + 2 * d - x) % gap = 0 := by
  rcases h with q | q | q | q <;> subst q <;> omega
theorem SlAt.next {gx gy gap d row col nx : Int} (hg : gap = 1 ∨ gap = 3 ∨ gap = 5 ∨ gap = 7) (hd : d % gap = 0) (q : SlAt gx gy gap d row col nx) : gx + d < col + nx ∨ SlAt gx gy gap d row (col + nx) nx := by
  by_cases h : gx + d < col + nx
  · exact Or.inl h
  · obtain ⟨a, b, c, e, f, m, i⟩ := q
    right
    rcases i with ⟨i, rfl⟩ | ⟨i1, i2, rfl, i3⟩
    · exact ⟨a, b, c, by omega, by omega, gap_add hg m, Or.inl ⟨i, rfl⟩⟩
    · exact ⟨a, b, c, by omega, by omega, gap_two hg hd i3, Or.inr ⟨i1, i2, rfl, by omega⟩⟩
set_option maxRecDepth 100000 in
set_option maxHeartbeats 1600000 in
theorem ring_any (W H : Int) (a : Option Addr) (n c g : Nat) (gap d : Int) (w : World) (E : Hk (SlOk W H n g gap d)) :
    Calls Tryd.prog 75 #[.agg #[.int .i64 W, .int .i64 H, .slice a n c], .int .i64 g, .int .i64 d, .int .i64 gap] w fun e w' => ∃ v, e = .returned v ∧ w'.ownsRow w.heap.size 3 1 v (ringL W g n gap d).length (natsL (ringL W g n gap d)) ∧ Below w.heap.size w w' := by
  obtain ⟨ii, hii, hiz0, hiz1, hiz2⟩ := info_parts info_int
  have HWB : Hk (Below w.heap.size w (w.alloc (.cells #[.int .i64 W, .int .i64 H, .slice a n c] 24))) := ⟨(Below.refl _ _).alloc (Nat.le_refl _) _⟩
  have hNW : (w.heap.size + 1) ≤ ((w.alloc (.cells #[.int .i64 W, .int .i64 H, .slice a n c] 24))).heap.size := by simp
  have HB : Hk (Below (w.heap.size + 1) (w.alloc (.cells #[.int .i64 W, .int .i64 H, .slice a n c] 24)) (w.alloc (.cells #[.int .i64 W, .int .i64 H, .slice a n c] 24))) := ⟨Below.refl _ _⟩
  have HTR : Hk (∀ X, Below (w.heap.size + 1) (w.alloc (.cells #[.int .i64 W, .int .i64 H, .slice a n c] 24)) X → Below w.heap.size w X) := ⟨fun X hX => HWB.out.trans (hX.mono (by omega))⟩
  obtain ⟨hc, hf, hl, hn', hm⟩ := kw_rules HB.out hNW
  have w1 := E.out.w1
  have w2 := E.out.w2
  have h1 := E.out.h1
  have h2 := E.out.h2
  have d0 := E.out.d0
  have d2 := E.out.d2
  have gap1 : 1 ≤ gap := by have := E.out.gp; omega
  have gap7 : gap ≤ 7 := by have := E.out.gp; omega
  have hn16 : n ≤ 16384 := by have := E.out.nn; have := mul_bd w1 w2 h1 h2; omega
  obtain ⟨g0, g1, g2, g3, _⟩ := E.out.xy E.out.gn
  have W0 : ¬ W = 0 := by omega
  have gtm : (g : Int).tmod W = (g : Int) % W := Int.tmod_eq_emod_of_nonneg (by omega)
  have gtd : (g : Int).tdiv W = (g : Int) / W := Int.tdiv_eq_ediv_of_nonneg (by omega)
  obtain ⟨gx, hgx⟩ : ∃ x, (g : Int) % W = x := ⟨_, rfl⟩
  obtain ⟨gy, hgy⟩ : ∃ x, (g : Int) / W = x := ⟨_, rfl⟩
  have HST := Hk.mk (bef_start E.out)
  have HRW : Hk (∀ {row c c' : Int}, (row - gy) % gap = 0 → gx + d < c → c' = gx - d → befL W g n gap d (row + gap) c' = befL W g n gap d row c) := ⟨fun {row c c'} h1 h2 h3 => bef_row E.out (by rw [hgy]; exact h1) (by rw [hgx]; exact h2) (by rw [hgx]; exact h3)⟩
  have HEN : Hk (∀ {row col : Int}, gy + d < row → befL W g n gap d row col = ringL W g n gap d) := ⟨fun {row col} h => bef_end E.out (by rw [hgy]; exact h)⟩
  have HIN : Hk (∀ {row col nx : Int}, SlAt gx gy gap d row col nx → ∀ k : Nat, (k : Int) = col + W * row → 0 ≤ col → col < W → 0 ≤ row → row < H → k < n ∧ befL W g n gap d row (col + nx) = befL W g n gap d row col ++ [k]) := ⟨fun {row col nx} q k e a b c d => bef_in E.out (by rw [hgx, hgy]; exact q) k e a b c d⟩
  have HOU : Hk (∀ {row col nx : Int}, SlAt gx gy gap d row col nx → ¬ (0 ≤ col ∧ col < W ∧ 0 ≤ row ∧ row < H) → befL W g n gap d row (col + nx) = befL W g n gap d row col) := ⟨fun {row col nx} q e => bef_out E.out (by rw [hgx, hgy]; exact q) e⟩
  rw [hgx, hgy] at HST
  rw [hgx] at gtm g0 g1
  rw [hgy] at gtd g2 g3
  clear hgx hgy
  go_enter Tryd.func75, Tryd.ntmps75
  go_upto_region 2 with fail
  go_quiet (fail)
  replace HB := Hk.mk (below_drewN HB.out nq)
  generalize World.drewN ((w.alloc (.cells #[.int .i64 W, .int .i64 H, .slice a n c] 24))) nq = VR at *
  clear hc hf hl hn' hm
  go_wp2_with fail
  go_loopw [9, 12] (fun v r wr => ∃ row : Int, r = .int .i64 row ∧ gy - d ≤ row ∧ row ≤ gy + d + gap ∧ (row - gy) % gap = 0 ∧ Hk (World.ownsRow wr (w.heap.size + 1) 3 1 v (befL W g n gap d row (gx - d)).length (natsL (befL W g n gap d row (gx - d)))) ∧ Hk (Below (w.heap.size + 1) (w.alloc (.cells #[.int .i64 W, .int .i64 H, .slice a n c] 24)) wr)) (fun _ r _ => (gy + d + gap + 1 - intOf r).toNat)
  case atStart => exact ⟨gy - d, rfl, by omega, by omega, gap_neg E.out.gp E.out.d1, by rw [HST.out]; exact ⟨⟨rfl, Or.inl ⟨rfl, rfl⟩⟩⟩, HB⟩
  case round =>
    clear HB
    obtain ⟨row, rfl, hr0, hr1, hrm, HO, HB⟩ := hrel
    obtain ⟨hc, hf, hl, hn', hm⟩ := kw_rules HB.out hNW
    by_cases hrl : row ≤ gy + d
    · have dr : decide (row ≤ gy + d) = true := by simpa using hrl
      obtain ⟨nx, hnx⟩ : ∃ nx : Int, ((row = gy - d ∨ row = gy + d) ∧ nx = gap) ∨ (gy - d < row ∧ row < gy + d ∧ nx = 2 * d) := by
        by_cases e : row = gy - d ∨ row = gy + d
        · exact ⟨gap, Or.inl ⟨e, rfl⟩⟩
        · exact ⟨2 * d, Or.inr ⟨by omega, by omega, rfl⟩⟩
      have nx0 : 1 ≤ nx ∧ nx ≤ 600 := by omega
      obtain ⟨bI, hbI⟩ : ∃ b : Bool, decide (gy - d < row ∧ row < gy + d) = b := ⟨_, rfl⟩
      have HBI := Hk.mk hbI
      go_upto_region 7 with fail
      go_cut [46] (fun v wx => v = .bool bI ∧ wr = wx)
      case first =>
        by_cases e2 : gy - d < row
        · have d1 : decide (gy - d < row) = true := by simpa using e2
          by_cases e3 : row < gy + d
          · have d2 : decide (row < gy + d) = true := by simpa using e3
            have e4 : bI = true := by rw [← hbI]; exact decide_eq_true ⟨e2, e3⟩
            subst e4
            clear hbI HBI
            go_wp2_with fail
            go_meet
            case rel => exact ⟨rfl, rfl⟩
          · have d2 : decide (row < gy + d) = false := by simpa using e3
            have e4 : bI = false := by rw [← hbI]; exact decide_eq_false (fun h => e3 h.2)
            subst e4
            clear hbI HBI
            go_wp2_with fail
            go_meet
            case rel => exact ⟨rfl, rfl⟩
        · have d1 : decide (gy - d < row) = false := by simpa using e2
          have e4 : bI = false := by rw [← hbI]; exact decide_eq_false (fun h => e2 h.1)
          subst e4
          clear hbI HBI
          go_wp2_with fail
          go_meet
          case rel => exact ⟨rfl, rfl⟩
      case rest =>
      obtain ⟨rfl, rfl⟩ := hcut
      clear hbI
      have w2d : IntKind.i64.wrap (2 * d) = 2 * d := by rw [IntKind.wrap_i64]; omega
      go_upto_if 46 with fail
      go_cut [13] (fun v wx => v = .int .i64 nx ∧ wr = wx)
      case first =>
        cases bI
        · have hi := of_decide_eq_false HBI.out
          have hn : nx = gap := by omega
          subst hn
          go_wp2_with fail
          go_meet
          case rel => exact ⟨rfl, rfl⟩
        · have hi := of_decide_eq_true HBI.out
          have hn : nx = 2 * d := by omega
          subst hn
          go_wp2_with fail
          go_meet
          case rel => exact ⟨rfl, rfl⟩
      case rest =>
        obtain ⟨rfl, rfl⟩ := hcut
        clear HBI
        go_wp2_with fail
        clear hc hf hl hn' hm
        obtain ⟨wo, hwo⟩ : ∃ wo : World, wo = wr := ⟨wr, rfl⟩
        subst hwo
        go_loopw [9, 14] (fun v cc wr => ∃ col : Int, cc = .int .i64 col ∧ gx - d ≤ col ∧ col ≤ gx + d + nx ∧ (gx + d < col ∨ SlAt gx gy gap d row col nx) ∧ Hk (World.ownsRow wr (w.heap.size + 1) 3 1 v (befL W g n gap d row col).length (natsL (befL W g n gap d row col))) ∧ Hk (Below (w.heap.size + 1) (w.alloc (.cells #[.int .i64 W, .int .i64 H, .slice a n c] 24)) wr)) (fun _ cc _ => (gx + d + nx + 1 - intOf cc).toNat)
        case atStart => exact ⟨gx - d, rfl, by omega, by omega, Or.inr ⟨hr0, hrl, hrm, by omega, by omega, gap_neg E.out.gp E.out.d1, by omega⟩, HO, HB⟩
        case round =>
          clear HO HB
          obtain ⟨col, rfl, hc0, hc1, hat, HO, HB⟩ := hrel
          obtain ⟨hc, hf, hl, hn', hm⟩ := kw_rules HB.out hNW
          by_cases hcl : col ≤ gx + d
          · have dc : decide (col ≤ gx + d) = true := by simpa using hcl
            have AT : SlAt gx gy gap d row col nx := hat.resolve_left (by omega)
            have HNX := Hk.mk (AT.next E.out.gp E.out.d1)
            have HAT := Hk.mk AT
            clear AT hat
            by_cases i1 : 0 ≤ col
            case neg =>
              have d1 : decide (0 ≤ col) = false := by simpa using i1
              have ho := HOU.out HAT.out (fun h => i1 h.1)
              go_wp2_with fail
              refine ⟨⟨col + nx, by go_num, by omega, by omega, HNX.out, ?_, HB⟩, by simp [intOf]; omega⟩
              rw [ho]
              exact HO
            have d1 : decide (0 ≤ col) = true := by simpa using i1
            by_cases i2 : col < W
            case neg =>
              have d2 : decide (col < W) = false := by simpa using i2
              have ho := HOU.out HAT.out (fun h => i2 h.2.1)
              go_wp2_with fail
              refine ⟨⟨col + nx, by go_num, by omega, by omega, HNX.out, ?_, HB⟩, by simp [intOf]; omega⟩
              rw [ho]
              exact HO
            have d2 : decide (col < W) = true := by simpa using i2
            by_cases i3 : 0 ≤ row
            case neg =>
              have d3 : decide (0 ≤ row) = false := by simpa using i3
              have ho := HOU.out HAT.out (fun h => i3 h.2.2.1)
              go_wp2_with fail
              refine ⟨⟨col + nx, by go_num, by omega, by omega, HNX.out, ?_, HB⟩, by simp [intOf]; omega⟩
              rw [ho]
              exact HO
            have d3 : decide (0 ≤ row) = true := by simpa using i3
            by_cases i4 : row < H
            case neg =>
              have d4 : decide (row < H) = false := by simpa using i4
              have ho := HOU.out HAT.out (fun h => i4 h.2.2.2)
              go_wp2_with fail
              refine ⟨⟨col + nx, by go_num, by omega, by omega, HNX.out, ?_, HB⟩, by simp [intOf]; omega⟩
              rw [ho]
              exact HO
            have d4 : decide (row < H) = true := by simpa using i4
            obtain ⟨P, hP⟩ : ∃ q, W * row = q := ⟨_, rfl⟩
            have hP0 : 0 ≤ P := by rw [← hP]; exact Int.mul_nonneg (by omega) i3
            obtain ⟨k, hk⟩ : ∃ k : Nat, col + P = (k : Int) := ⟨(col + P).toNat, by omega⟩
            obtain ⟨hkn, hin⟩ := HIN.out HAT.out k (by omega) i1 i2 i3 i4
            have wP : IntKind.i64.wrap P = P := by rw [IntKind.wrap_i64]; omega
            have wK : IntKind.i64.wrap (k : Int) = (k : Int) := by rw [IntKind.wrap_i64]; omega
            have hlen := befL_len W g n gap d row col
            have HHI := Hk.mk hin
            clear hin
            go_wp2_with (at_builtin; go_must (refine wpList_append_own_at _ rfl _ _ 26 rfl (w.heap.size + 1) 3 ii (.int .i64 0) 1 8 Tryd.underlying26 hii hiz0 hiz1 hiz2 rfl (by decide) _ _ _ rfl (HO.out.alloc _) ⟨wr.heap.size, 0, none⟩ 1 1 [.int .i64 (k : Nat)] rfl rfl (one_new wr _ _) (one_it _) (by unfold maxLen; omega) (by omega) (by have := kw_size HB.out hNW; simp; omega) ?_); intro v8 z8 hown hgrow hnil hat; have HO8 := Hk.mk hown; have HB8 := Hk.mk ((kw_al HB.out hNW _).grown hgrow (by have := kw_size HB.out hNW; simp; omega) (fun j hj => (HO.out.lt j hj).1)); clear hown hgrow hnil hat)
            refine ⟨⟨col + nx, by go_num, by omega, by omega, HNX.out, ?_, HB8⟩, by simp [intOf]; omega⟩
            rw [HHI.out]
            have := HO8.out
            exact ⟨by simpa [natsL] using this⟩
          · have dc : decide (col ≤ gx + d) = false := by simpa using hcl
            go_wp2_with fail
            refine ⟨⟨row + gap, by go_num, by omega, by omega, gap_add E.out.gp hrm, ?_, HB⟩, by simp [intOf]; omega⟩
            rw [HRW.out (c := col) hrm (by omega) rfl]
            exact HO
    · have dr : decide (row ≤ gy + d) = false := by simpa using hrl
      rw [HEN.out (by omega)] at HO
      as_aux_lemma =>
        go_wp2_with fail
        go_ret
        exact ⟨_, rfl, own_le20 HO.out (Nat.le_succ _), HTR.out _ HB.out⟩
end Go.Proofs.YthabjihpjdlmoaaDoor
/- Plain words of layer 20: the first N of them; two rows of one's own. -/
namespace Go.Proofs.YthabjihpjdlmoaaDoor
open Go.ChangeShapes Go.WideShapes Go.ChangeAt Go.RowKit Go.Deep
set_option linter.unusedVariables false
set_option linter.unusedSimpArgs false
theorem take_more {α : Type} {l : List α} {N : Nat} {x : α} (h : (l.take N).length < N) : (l ++ [x]).take N = l.take N ++ [x] := by
  have hl : l.length < N := by rw [List.length_take] at h; omega
  rw [List.take_of_length_le (by simp; omega), List.take_of_length_le (by omega)]
theorem take_full {α : Type} {l : List α} {N : Nat} (r : List α) (h : ¬ (l.take N).length < N) : (l ++ r).take N = l.take N := by
  have hl : N ≤ l.length := by rw [List.length_take] at h; omega
  rw [List.take_append_of_le_length hl]
theorem filter_take_succ {α : Type} {l : List α} {p : α → Bool} {j : Nat} (h : j < l.length) : (l.take (j + 1)).filter p = (l.take j).filter p ++ (if p l[j] = true then [l[j]] else []) := by
  rw [List.take_succ_eq_append_getElem h, List.filter_append]
  congr 1
  by_cases e : p l[j] = true
  · rw [if_pos e, List.filter_cons_of_pos e]; rfl
  · rw [if_neg e, List.filter_cons_of_neg e]; rfl
theorem slL_pre (W : Int) (g n : Nat) (gd : Nat → Bool) (gap : Int) (f : Nat) : ∀ k, ∃ r, slL W g n gd gap (f + k) = slL W g n gd gap f ++ r
  | 0 => ⟨[], by simp⟩
  | k + 1 => by
    obtain ⟨r, hr⟩ := slL_pre W g n gd gap f k
    refine ⟨r ++ slF W g n gd gap ((f + k : Nat) : Int), ?_⟩
    show slL W g n gd gap (f + k) ++ _ = _
    rw [hr, List.append_assoc]
    rfl
theorem ring_far {W H : Int} {n g : Nat} {gap d : Int} (hW : 1 ≤ W) (hn : (n : Int) = W * H) (hg : g < n) (hd : W + H ≤ d) : ringL W g n gap d = [] := by
  unfold ringL
  rw [List.filter_eq_nil_iff]
  intro t ht hh
  have ht := List.mem_range.1 ht
  have h1 := (slX_iff _ _ _ _).1 hh
  have a0 := Int.emod_nonneg (t : Int) (show W ≠ 0 by omega)
  have a1 := Int.emod_lt_of_pos (t : Int) (show 0 < W by omega)
  have a2 : 0 ≤ (t : Int) / W := Int.ediv_nonneg (by omega) (by omega)
  have a3 : (t : Int) / W < H := Int.ediv_lt_of_lt_mul (by omega) (by rw [Int.mul_comm]; omega)
  have b0 := Int.emod_nonneg (g : Int) (show W ≠ 0 by omega)
  have b1 := Int.emod_lt_of_pos (g : Int) (show 0 < W by omega)
  have b2 : 0 ≤ (g : Int) / W := Int.ediv_nonneg (by omega) (by omega)
  have b3 : (g : Int) / W < H := Int.ediv_lt_of_lt_mul (by omega) (by rw [Int.mul_comm]; omega)
  omega
theorem slL_far {W H : Int} {n g : Nat} {gd : Nat → Bool} {gap : Int} (hW : 1 ≤ W) (hn : (n : Int) = W * H) (hg : g < n) {f : Nat} (hf : W + H ≤ (f : Int)) : ∀ k, slL W g n gd gap (f + k) = slL W g n gd gap f
  | 0 => rfl
  | k + 1 => by
    show slL W g n gd gap (f + k) ++ slF W g n gd gap ((f + k : Nat) : Int) = _
    rw [slL_far hW hn hg hf k]
    unfold slF
    rw [ring_far hW hn hg (by omega)]
    simp
/-- All places that are asked for. -/
def slA (W H : Int) (g n : Nat) (gd : Nat → Bool) (gap : Int) (N : Nat) : List Nat := (slL W g n gd gap (W + H + 1).toNat).take N
theorem slA_end {W H : Int} {n g : Nat} {gd : Nat → Bool} {gap : Int} {N f : Nat} (hW : 1 ≤ W) (hH : 1 ≤ H) (hn : (n : Int) = W * H) (hg : g < n) (h : ¬ ((f : Int) ≤ W + H ∧ ((slL W g n gd gap f).take N).length < N)) : (slL W g n gd gap f).take N = slA W H g n gd gap N := by
  unfold slA
  by_cases c : (f : Int) ≤ W + H
  · obtain ⟨r, hr⟩ := slL_pre W g n gd gap f ((W + H + 1).toNat - f)
    rw [show f + ((W + H + 1).toNat - f) = (W + H + 1).toNat by omega] at hr
    rw [hr, take_full r (fun q => h ⟨c, q⟩)]
  · have := slL_far (gd := gd) (gap := gap) (f := (W + H + 1).toNat) hW hn hg (by omega) (f - (W + H + 1).toNat)
    rw [show (W + H + 1).toNat + (f - (W + H + 1).toNat) = f by omega] at this
    rw [this]
theorem slA_len (W H : Int) (g n : Nat) (gd : Nat → Bool) (gap : Int) (N : Nat) : (slA W H g n gd gap N).length ≤ N := by
  unfold slA; rw [List.length_take]; omega
/-- Two rows of numbers of one's own, apart. -/
structure Sq (w : World) (S : Nat) (v v' : Value) (A R : List Nat) : Prop where
  rf : w.ownsRow S 3 1 v A.length (natsL A)
  rr : w.ownsRow S 3 1 v' R.length (natsL R)
  ap : v.ownBlock = none ∨ v'.ownBlock = none ∨ v.ownBlock ≠ v'.ownBlock
theorem Sq.later {w w' : World} {S : Nat} {v v' : Value} {A R : List Nat} (h : Sq w S v v' A R) (hb : Below w.heap.size w w') : Sq w' S v v' A R :=
  ⟨(Fr.of_below hb).row h.rf (fun j hj hm => by have := (h.rf.lt j hj).2; omega), (Fr.of_below hb).row h.rr (fun j hj hm => by have := (h.rr.lt j hj).2; omega), h.ap⟩
theorem Sq.of {w w' : World} {S : Nat} {v v' : Value} {A R : List Nat} (h : w.ownsRow S 3 1 v A.length (natsL A)) (hb : Below w.heap.size w w') (hS : S ≤ w.heap.size) (h' : w'.ownsRow w.heap.size 3 1 v' R.length (natsL R)) : Sq w' S v v' A R := by
  refine ⟨(Fr.of_below hb).row h (fun j hj hm => by have := (h.lt j hj).2; omega), own_le20 h' hS, ?_⟩
  by_cases c : v.ownBlock = none
  · exact Or.inl c
  · obtain ⟨j, hj⟩ := Option.ne_none_iff_exists'.1 c
    right
    right
    rw [hj]
    intro e
    have a := (h.lt j hj).2
    have b := (h'.lt j e.symm).1
    omega
theorem Sq.put {w z : World} {S t : Nat} {v v' u : Value} {A R : List Nat} (h : Sq w S v v' A R) (hown : z.ownsRow S 3 1 u (A.length + 1) (natsL A ++ [.int .i64 (t : Nat)])) (hg : w.grownBy z v.ownBlock) (hat : u.ownBlock = v.ownBlock ∨ u.ownBlock = some w.heap.size) : Sq z S u v' (A ++ [t]) R := by
  refine ⟨by simpa [natsL] using hown, h.rr.kept hg ?_, ?_⟩
  · rcases h.ap with e | e | e
    · by_cases c : v'.ownBlock = none
      · exact Or.inl c
      · right; rw [e]; exact c
    · exact Or.inl e
    · exact Or.inr fun e' => e e'.symm
  · rcases hat with e | e
    · rw [e]; exact h.ap
    · by_cases c : v'.ownBlock = none
      · exact Or.inr (Or.inl c)
      right
      right
      rw [e]
      intro e'
      have := (h.rr.lt _ e'.symm).2
      omega
theorem own_form20 {w : World} {S : Nat} {v : Value} {R : List Nat} (h : w.ownsRow S 3 1 v R.length (natsL R)) : ∃ a c, v = .slice a R.length c ∧ (0 < R.length → ∃ g, a = some ⟨g, 0, none⟩) := by
  rcases h.2 with ⟨e, h0⟩ | ⟨g, cap, cur, e, _⟩
  · exact ⟨none, 0, by rw [h0]; exact e, fun q => by omega⟩
  · exact ⟨_, _, e, fun _ => ⟨g, rfl⟩⟩
theorem own_at20 {w : World} {S g c j : Nat} {R : List Nat} (h : w.ownsRow S 3 1 (.slice (some ⟨g, 0, none⟩) R.length c) R.length (natsL R)) (hj : j < R.length) : w.cell? ⟨g, j, none⟩ = some (.int .i64 (R[j] : Nat)) := by
  rw [h.cellAt j (by omega)]
  simp [natsL, hj]
end Go.Proofs.YthabjihpjdlmoaaDoor
/- Plain words of layer 13: walks over steps, tables that no step betters, what is still to be looked at. -/
namespace Go.Proofs.YthabjihpjdlmoaaDoor
open Go.RowKit
set_option linter.unusedVariables false
/-- The steps: T t i the tile, C t i the cost; below 0: there is none. -/
structure Stp (n : Nat) (T C : Nat → Nat → Int) : Prop where
  lt : ∀ t i, t < n → T t i < n
  pos : ∀ t i, t < n → 0 ≤ T t i → 0 < C t i
  top : ∀ t i, t < n → C t i ≤ 84
def Wk (n : Nat) (T C : Nat → Nat → Int) (g : Nat) : Nat → Nat → Int → Prop
  | 0, t, d => t = g ∧ d = 0
  | k + 1, u, d => ∃ t i, t < n ∧ i < 8 ∧ T t i = (u : Int) ∧ Wk n T C g k t (d - C t i)
structure Tab (n : Nat) (T C : Nat → Nat → Int) (g : Nat) (D : Nat → Int) : Prop where
  at0 : D g = 0
  low : ∀ t, t < n → -1 ≤ D t
  real : ∀ t, t < n → 0 ≤ D t → ∃ k, Wk n T C g k t (D t)
  rel : ∀ t i, t < n → i < 8 → 0 ≤ D t → 0 ≤ T t i → 0 ≤ D (T t i).toNat ∧ D (T t i).toNat ≤ D t + C t i
theorem Tab.le {n g : Nat} {T C : Nat → Nat → Int} {D : Nat → Int} (h : Tab n T C g D) : ∀ k t d, Wk n T C g k t d → 0 ≤ D t ∧ D t ≤ d
  | 0, t, d, ⟨e, e'⟩ => by subst e e'; rw [h.at0]; omega
  | k + 1, u, d, ⟨t, i, ht, hi, e, hw⟩ => by
    have h1 := h.le k t _ hw
    have h2 := h.rel t i ht hi h1.1 (by omega)
    rw [e] at h2
    simp at h2
    omega
theorem Tab.leq {n g : Nat} {T C : Nat → Nat → Int} {D D' : Nat → Int} (h : Tab n T C g D) (h' : Tab n T C g D') {t : Nat} (ht : t < n) (h0 : 0 ≤ D' t) : 0 ≤ D t ∧ D t ≤ D' t := by
  obtain ⟨k, hk⟩ := h'.real t ht h0
  exact h.le k t _ hk
theorem Tab.eq {n g : Nat} {T C : Nat → Nat → Int} {D D' : Nat → Int} (h : Tab n T C g D) (h' : Tab n T C g D') {t : Nat} (ht : t < n) : D t = D' t := by
  have a := h.low t ht
  have b := h'.low t ht
  have c := fun q => h.leq h' ht q
  have d := fun q => h'.leq h ht q
  omega
def Rlx (T C : Nat → Nat → Int) (D : Nat → Int) (t i : Nat) : Prop := 0 ≤ T t i → 0 ≤ D (T t i).toNat ∧ D (T t i).toNat ≤ D t + C t i
/-- How many tiles have been come to. -/
def cntD (D : Nat → Int) : Nat → Nat
  | 0 => 0
  | k + 1 => cntD D k + (if 0 ≤ D k then 1 else 0)
theorem cntD_le (D : Nat → Int) : ∀ n, cntD D n ≤ n
  | 0 => Nat.le_refl _
  | k + 1 => by
    have := cntD_le D k
    unfold cntD
    split <;> omega
def updD (D : Nat → Int) (u : Nat) (v : Int) (k : Nat) : Int := if k = u then v else D k
theorem updD_at (D : Nat → Int) (u : Nat) (v : Int) : updD D u v u = v := by unfold updD; rw [if_pos rfl]
theorem updD_far {D : Nat → Int} {u k : Nat} {v : Int} (h : k ≠ u) : updD D u v k = D k := by unfold updD; rw [if_neg h]
theorem cntD_far {D : Nat → Int} {u : Nat} {v : Int} : ∀ {n}, n ≤ u → cntD (updD D u v) n = cntD D n
  | 0, _ => rfl
  | k + 1, h => by
    show cntD (updD D u v) k + _ = cntD D k + _
    rw [cntD_far (n := k) (by omega), updD_far (by omega)]
theorem cntD_upd {D : Nat → Int} {u : Nat} {v : Int} (hv : 0 ≤ v) : ∀ {n}, u < n → cntD (updD D u v) n = cntD D n + (if 0 ≤ D u then 0 else 1)
  | 0, h => by omega
  | k + 1, h => by
    show cntD (updD D u v) k + _ = cntD D k + _ + _
    by_cases e : k = u
    · subst e
      rw [cntD_far (Nat.le_refl _), updD_at, if_pos hv]
      split <;> omega
    · rw [cntD_upd hv (n := k) (by omega), updD_far e]
      omega
/-- What may still be taken off. -/
def potD (D : Nat → Int) : Nat → Nat
  | 0 => 0
  | k + 1 => potD D k + (if D k < 0 then 1400001 else (D k).toNat)
theorem potD_far {D : Nat → Int} {u : Nat} {v : Int} : ∀ {n}, n ≤ u → potD (updD D u v) n = potD D n
  | 0, _ => rfl
  | k + 1, h => by
    show potD (updD D u v) k + _ = potD D k + _
    rw [potD_far (n := k) (by omega), updD_far (by omega)]
theorem potD_upd {D : Nat → Int} {u : Nat} {v : Int} (hv : 0 ≤ v) (hb : v ≤ 1400000) (hd : D u < 0 ∨ v < D u) : ∀ {n}, u < n → potD (updD D u v) n + 1 ≤ potD D n
  | 0, h => by omega
  | k + 1, h => by
    show potD (updD D u v) k + _ + 1 ≤ potD D k + _
    by_cases e : k = u
    · subst e
      rw [potD_far (Nat.le_refl _), updD_at, if_neg (by omega)]
      split <;> omega
    · have := potD_upd hv hb hd (n := k) (by omega)
      rw [updD_far e]
      omega
theorem potD_le {D : Nat → Int} : ∀ n, (∀ t, t < n → D t ≤ 1400001) → potD D n ≤ n * 1400001
  | 0, _ => Nat.le_refl _
  | k + 1, h => by
    have h1 := potD_le k (fun t ht => h t (by omega))
    have h2 := h k (by omega)
    show potD D k + _ ≤ _
    split <;> omega
/-- Between two tiles. -/
structure Lab0 (n : Nat) (T C : Nat → Nat → Int) (g : Nat) (D : Nat → Int) (pend : Nat → Prop) : Prop where
  at0 : D g = 0
  low : ∀ t, t < n → -1 ≤ D t
  real : ∀ t, t < n → 0 ≤ D t → ∃ k, Wk n T C g k t (D t)
  hi : ∀ t, t < n → D t ≤ ((cntD D n : Int) - 1) * 84
  rel : ∀ t, t < n → 0 ≤ D t → pend t ∨ ∀ i, i < 8 → Rlx T C D t i
/-- In a tile, i of its steps done. -/
structure Lab (n : Nat) (T C : Nat → Nat → Int) (g : Nat) (D : Nat → Int) (pend : Nat → Prop) (t i : Nat) : Prop where
  at0 : D g = 0
  low : ∀ t, t < n → -1 ≤ D t
  real : ∀ t, t < n → 0 ≤ D t → ∃ k, Wk n T C g k t (D t)
  hi : ∀ t, t < n → D t ≤ ((cntD D n : Int) - 1) * 84
  rel : ∀ s, s < n → 0 ≤ D s → pend s ∨ (s = t ∧ ∀ j, j < i → Rlx T C D t j) ∨ ∀ j, j < 8 → Rlx T C D s j
  lt : t < n
  nn : 0 ≤ D t
theorem Lab0.bd {n g t : Nat} {T C : Nat → Nat → Int} {D : Nat → Int} {pend : Nat → Prop} (h : Lab0 n T C g D pend) (hn : n ≤ 16384) (ht : t < n) : D t ≤ 1376172 := by
  have := h.hi t ht
  have := cntD_le D n
  omega
theorem Lab.bd {n g s t i : Nat} {T C : Nat → Nat → Int} {D : Nat → Int} {pend : Nat → Prop} (h : Lab n T C g D pend t i) (hn : n ≤ 16384) (ht : s < n) : D s ≤ 1376172 := by
  have := h.hi s ht
  have := cntD_le D n
  omega
def oneD (g k : Nat) : Int := if k = g then 0 else -1
theorem oneD_at (g : Nat) : oneD g g = 0 := if_pos rfl
theorem oneD_no {g k : Nat} (h : k ≠ g) : oneD g k = -1 := if_neg h
theorem cntD_none : ∀ {n g : Nat}, n ≤ g → cntD (oneD g) n = 0
  | 0, _, _ => rfl
  | k + 1, g, h => by
    show cntD (oneD g) k + _ = 0
    rw [cntD_none (n := k) (by omega), oneD_no (by omega)]
    rfl
theorem cntD_one : ∀ {n g : Nat}, g < n → cntD (oneD g) n = 1
  | 0, g, h => by omega
  | k + 1, g, h => by
    show cntD (oneD g) k + _ = 1
    by_cases e : k = g
    · subst e
      rw [cntD_none (Nat.le_refl _), oneD_at]
      rfl
    · rw [cntD_one (n := k) (by omega), oneD_no e]
      rfl
theorem Lab0.start {n g : Nat} {T C : Nat → Nat → Int} {pend : Nat → Prop} (hg : g < n) (hp : pend g) : Lab0 n T C g (oneD g) pend := by
  refine ⟨oneD_at g, fun t _ => ?_, fun t _ h0 => ?_, fun t _ => ?_, fun t _ h0 => ?_⟩
  · unfold oneD; split <;> omega
  · by_cases e : t = g
    · subst e; exact ⟨0, rfl, oneD_at t⟩
    · rw [oneD_no e] at h0; omega
  · rw [cntD_one hg]; unfold oneD; split <;> omega
  · by_cases e : t = g
    · subst e; exact Or.inl hp
    · rw [oneD_no e] at h0; omega
theorem Lab0.take {n g t : Nat} {T C : Nat → Nat → Int} {D : Nat → Int} {pend pend' : Nat → Prop} (h : Lab0 n T C g D pend) (hp : ∀ s, s ≠ t → pend s → pend' s) (ht : t < n) (h0 : 0 ≤ D t) : Lab n T C g D pend' t 0 := by
  refine ⟨h.at0, h.low, h.real, h.hi, fun s hs h1 => ?_, ht, h0⟩
  by_cases e : s = t
  · exact Or.inr (Or.inl ⟨e, fun j hj => by omega⟩)
  · exact (h.rel s hs h1).elim (fun q => Or.inl (hp s e q)) (fun q => Or.inr (Or.inr q))
theorem Lab0.drop {n g : Nat} {T C : Nat → Nat → Int} {D : Nat → Int} {pend pend' : Nat → Prop} (h : Lab0 n T C g D pend) (hp : ∀ s, s < n → 0 ≤ D s → pend s → pend' s) : Lab0 n T C g D pend' :=
  ⟨h.at0, h.low, h.real, h.hi, fun s hs h1 => (h.rel s hs h1).imp (hp s hs h1) id⟩
theorem Lab.skip {n g t i : Nat} {T C : Nat → Nat → Int} {D : Nat → Int} {pend : Nat → Prop} (h : Lab n T C g D pend t i) (hr : Rlx T C D t i) : Lab n T C g D pend t (i + 1) := by
  refine ⟨h.at0, h.low, h.real, h.hi, fun s hs h1 => ?_, h.lt, h.nn⟩
  rcases h.rel s hs h1 with q | ⟨e, q⟩ | q
  · exact Or.inl q
  · refine Or.inr (Or.inl ⟨e, fun j hj => ?_⟩)
    by_cases ej : j = i
    · rw [ej]; exact hr
    · exact q j (by omega)
  · exact Or.inr (Or.inr q)
theorem Lab.done {n g t : Nat} {T C : Nat → Nat → Int} {D : Nat → Int} {pend : Nat → Prop} (h : Lab n T C g D pend t 8) : Lab0 n T C g D pend := by
  refine ⟨h.at0, h.low, h.real, h.hi, fun s hs h1 => ?_⟩
  rcases h.rel s hs h1 with q | ⟨e, q⟩ | q
  · exact Or.inl q
  · subst e; exact Or.inr q
  · exact Or.inr q
theorem Lab0.out {n g : Nat} {T C : Nat → Nat → Int} {D : Nat → Int} {pend : Nat → Prop} (h : Lab0 n T C g D pend) (hp : ∀ s, s < n → 0 ≤ D s → ¬ pend s) : Tab n T C g D :=
  ⟨h.at0, h.low, h.real, fun t i ht hi h0 h1 => ((h.rel t ht h0).resolve_left (hp t ht h0)) i hi h1⟩
theorem Rlx.down {T C : Nat → Nat → Int} {D : Nat → Int} {s j u : Nat} {v : Int} (h : Rlx T C D s j) (hs : s ≠ u) (hv : 0 ≤ v) (hd : D u < 0 ∨ v < D u) : Rlx T C (updD D u v) s j := fun h0 => by
  have h1 := h h0
  rw [updD_far hs]
  by_cases e : (T s j).toNat = u
  · rw [e] at h1 ⊢; rw [updD_at]; omega
  · rw [updD_far e]; exact h1
/-- A step that betters. -/
theorem Lab.put {n g t i u : Nat} {T C : Nat → Nat → Int} {D : Nat → Int} {pend pend' : Nat → Prop} {v : Int} (h : Lab n T C g D pend t i) (hS : Stp n T C) (hi : i < 8) (hu : T t i = (u : Int)) (hv : v = D t + C t i) (hd : D u < 0 ∨ v < D u)
    (hp : ∀ s, s ≠ u → pend s → pend' s) (hq : pend' u) : Lab n T C g (updD D u v) pend' t (i + 1) := by
  have hun : u < n := by have := hS.lt t i h.lt; omega
  have hc := hS.pos t i h.lt (by omega)
  have hc2 := hS.top t i h.lt
  have h0 := h.nn
  have hut : t ≠ u := by
    rintro e
    subst e
    omega
  have hgu : g ≠ u := by
    rintro e
    subst e
    have := h.at0
    omega
  have hv0 : 0 ≤ v := by omega
  refine ⟨by rw [updD_far hgu]; exact h.at0, fun s hs => ?_, fun s hs h1 => ?_, fun s hs => ?_, fun s hs h1 => ?_, h.lt, by rw [updD_far hut]; exact h0⟩
  · by_cases e : s = u
    · rw [e, updD_at]; omega
    · rw [updD_far e]; exact h.low s hs
  · by_cases e : s = u
    · obtain ⟨k, hk⟩ := h.real t h.lt h0
      subst e
      refine ⟨k + 1, t, i, h.lt, hi, hu, ?_⟩
      rw [updD_at, hv, show D t + C t i - C t i = D t by omega]
      exact hk
    · rw [updD_far e] at h1 ⊢
      exact h.real s hs h1
  · rw [cntD_upd hv0 hun]
    have h1 := h.hi t h.lt
    by_cases e : s = u
    · subst e
      rw [updD_at]
      have h2 := h.hi s hs
      split <;> omega
    · rw [updD_far e]
      have h2 := h.hi s hs
      split <;> omega
  · by_cases e : s = u
    · rw [e]; exact Or.inl hq
    · rw [updD_far e] at h1
      rcases h.rel s hs h1 with q | ⟨e', q⟩ | q
      · exact Or.inl (hp s e q)
      · subst e'
        refine Or.inr (Or.inl ⟨rfl, fun j hj => ?_⟩)
        by_cases ej : j = i
        · subst ej
          intro _
          rw [hu]
          simp only [Int.toNat_natCast]
          rw [updD_at, updD_far hut]
          omega
        · exact (q j (by omega)).down e hv0 hd
      · exact Or.inr (Or.inr (fun j hj => (q j hj).down e hv0 hd))
theorem Lab.putBd {n g t i u : Nat} {T C : Nat → Nat → Int} {D : Nat → Int} {pend : Nat → Prop} {v : Int} (h : Lab n T C g D pend t i) (hS : Stp n T C) (hn : n ≤ 16384) (hu : T t i = (u : Int)) (hv : v = D t + C t i) (hd : D u < 0 ∨ v < D u) : u < n ∧ 0 ≤ v ∧ v ≤ 1400000 ∧ potD (updD D u v) n + 1 ≤ potD D n := by
  have hun : u < n := by have := hS.lt t i h.lt; omega
  have hc := hS.pos t i h.lt (by omega)
  have hc2 := hS.top t i h.lt
  have h0 := h.nn
  have hb := h.bd hn h.lt
  exact ⟨hun, by omega, by omega, potD_upd (by omega) (by omega) hd hun⟩
/-- The table at a goal that may be good, or not. -/
def TabG (n : Nat) (T C : Nat → Nat → Int) (g : Nat) (ok : Bool) (D : Nat → Int) : Prop := if ok = true then Tab n T C g D else ∀ t, t < n → D t = -1
theorem TabG.eq {n g : Nat} {T C : Nat → Nat → Int} {ok : Bool} {D D' : Nat → Int} (h : TabG n T C g ok D) (h' : TabG n T C g ok D') {t : Nat} (ht : t < n) : D t = D' t := by
  unfold TabG at h h'
  cases ok
  · rw [if_neg (by decide)] at h h'; rw [h t ht, h' t ht]
  · rw [if_pos rfl] at h h'; exact h.eq h' ht
end Go.Proofs.YthabjihpjdlmoaaDoor
